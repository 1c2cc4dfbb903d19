import Derived.Test.YtagbaimfigljiaaGreatDoorJModuleUses13
namespace Go.Proofs.YtagbaimfigljiaaGreatDoor
open Go.RowKit
set_option maxRecDepth 100000

/-- what is asked of the args, one by one. -/
def ExprFaultAt (d : Nat) : Prop := ∀ (S : Nat → Prop) (t : Ex) (v : Value) (w : World), (∀ b, S b → b < w.heap.size) → ExIs S w t v →
    Calls Tryz.prog 216 #[v, .int .i64 d] w fun e w' => e = .returned (.int .i64 (exFault t d)) ∧ Below w.heap.size w w'

theorem exFault_tail {k n : Int} {f s : ByteArray} {xs : List Ex} {d : Nat} (hd : ¬ 10 < d) (hk : isIn k 1 7 = true) (h8 : ¬ 8 < xs.length) :
    exFault (.mk k n f s xs) d = if (n ≠ 0 ∧ k ≠ 1) ∨ namesFit k f s = false ∨ countFits k xs.length = false then 4 else if isIn n 0 999999 = false then 2 else exsFault xs (d + 1) := by
  rw [exFault, if_neg hd, if_neg (by rw [hk]; simp), if_neg h8]

set_option maxHeartbeats 8000000 in
set_option maxRecDepth 100000 in
theorem exprFault_k1 (d : Nat) (hd1 : d < 1000) (hd0 : ¬ 10 < d) (ih : ExprFaultAt (d + 1)) (S : Nat → Prop) (n : Int) (f s : ByteArray) (xs : List Ex) (a : Option Addr) (cap : Nat) (w : World) (_hf : f.size ≤ maxLen) (_hs : s.size ≤ maxLen) (hS : ∀ b, S b → b < w.heap.size)
    (h8 : ¬ 8 < xs.length) (hrest : xs.length = 0 ∨ ∃ b o, a = some ⟨b, o, none⟩ ∧ S b ∧ RowAt (ExAt S w) 5 xs b o) :
    Calls Tryz.prog 216 #[.agg #[.int .i64 1, .int .i64 n, .string f, .string s, .slice a xs.length cap], .int .i64 d] w fun e w' => e = .returned (.int .i64 (exFault (.mk 1 n f s xs) d)) ∧ Below w.heap.size w w' := by
  have HIH := veil ih
  have HREST := veil hrest
  clear ih hrest
  have hd' : ¬ (10 : Int) < (d : Int) := by omega
  have h8' : ¬ (8 : Int) < (xs.length : Int) := by omega
  have HB : Hid (Below w.heap.size w (w.alloc (.cells #[.int .i64 1, .int .i64 n, .string f, .string s, .slice a xs.length cap] 87))) := (Below.refl _ _).alloc (Nat.le_refl _) _
  have HT := veil (exFault_tail (n := n) (f := f) (s := s) hd0 (show isIn 1 1 7 = true from rfl) h8)
  have hin : isIn 1 1 7 = true := rfl
  have HNm : Hid (namesFit 1 f s = ((s.toList == []) && (f.toList == []))) := by show _ = _; rw [noneB_text, noneB_text]; rfl
  have HCt : Hid (countFits 1 xs.length = ((xs.length : Int) == 0)) := (len_eq xs.length 0).symm
  cases hF : (f.toList == [])
  case false =>
    have HF : Hid (exFault (.mk 1 n f s xs) d = 4) := by show _ = _; rw [HT.out, if_pos (Or.inr (Or.inl (HNm.out.trans (by rw [hF]; simp))))]
    clear HT HNm HCt HIH HREST
    go_enter Tryz.func216, Tryz.ntmps216
    go_wp2_with (first | (go_at_call 138; refine (in_any _ _ _ _).mono ?_; rintro e w' ⟨rfl, rfl⟩) | (go_at_call 211; refine (quoteMay_any _ (by assumption) _).mono ?_; rintro e w' ⟨rfl, rfl⟩) | (go_at_call 88; refine (nameMay_any _ (by assumption) _).mono ?_; rintro e w' ⟨rfl, rfl⟩))
    go_ret
    exact ⟨by rw [HF.out]; rfl, HB.out⟩
  cases hS0 : (s.toList == [])
  case false =>
    have HF : Hid (exFault (.mk 1 n f s xs) d = 4) := by show _ = _; rw [HT.out, if_pos (Or.inr (Or.inl (HNm.out.trans (by rw [hS0]; simp))))]
    clear HT HNm HCt HIH HREST
    go_enter Tryz.func216, Tryz.ntmps216
    go_wp2_with (first | (go_at_call 138; refine (in_any _ _ _ _).mono ?_; rintro e w' ⟨rfl, rfl⟩) | (go_at_call 211; refine (quoteMay_any _ (by assumption) _).mono ?_; rintro e w' ⟨rfl, rfl⟩) | (go_at_call 88; refine (nameMay_any _ (by assumption) _).mono ?_; rintro e w' ⟨rfl, rfl⟩))
    go_ret
    exact ⟨by rw [HF.out]; rfl, HB.out⟩
  cases hC : ((xs.length : Int) == 0)
  case false =>
    have HF : Hid (exFault (.mk 1 n f s xs) d = 4) := by show _ = _; rw [HT.out, if_pos (Or.inr (Or.inr (HCt.out.trans hC)))]
    clear HT HNm HCt HIH HREST
    go_enter Tryz.func216, Tryz.ntmps216
    go_wp2_with (first | (go_at_call 138; refine (in_any _ _ _ _).mono ?_; rintro e w' ⟨rfl, rfl⟩) | (go_at_call 211; refine (quoteMay_any _ (by assumption) _).mono ?_; rintro e w' ⟨rfl, rfl⟩) | (go_at_call 88; refine (nameMay_any _ (by assumption) _).mono ?_; rintro e w' ⟨rfl, rfl⟩))
    go_ret
    exact ⟨by rw [HF.out]; rfl, HB.out⟩
  cases hR : isIn n 0 999999
  case false =>
    have HF : Hid (exFault (.mk 1 n f s xs) d = 2) := by
      show _ = _
      rw [HT.out, if_neg, if_pos hR]
      rintro (h | h | h)
      · exact h.2 rfl
      · rw [HNm.out, hS0, hF] at h; cases h
      · rw [HCt.out, hC] at h; cases h
    clear HT HNm HCt HIH HREST
    go_enter Tryz.func216, Tryz.ntmps216
    go_wp2_with (first | (go_at_call 138; refine (in_any _ _ _ _).mono ?_; rintro e w' ⟨rfl, rfl⟩) | (go_at_call 211; refine (quoteMay_any _ (by assumption) _).mono ?_; rintro e w' ⟨rfl, rfl⟩) | (go_at_call 88; refine (nameMay_any _ (by assumption) _).mono ?_; rintro e w' ⟨rfl, rfl⟩))
    go_ret
    exact ⟨by rw [HF.out]; rfl, HB.out⟩
  have HF : Hid (exFault (.mk 1 n f s xs) d = firstBad (fun t => exFault t (d + 1)) xs) := by
    show _ = _
    rw [HT.out, if_neg, if_neg (by rw [hR]; simp), exsFault_first]
    rintro (h | h | h)
    · exact h.2 rfl
    · rw [HNm.out, hS0, hF] at h; cases h
    · rw [HCt.out, hC] at h; cases h
  clear HT HNm HCt

  go_enter Tryz.func216, Tryz.ntmps216
  go_wp2_with (first | (go_at_call 138; refine (in_any _ _ _ _).mono ?_; rintro e w' ⟨rfl, rfl⟩) | (go_at_call 211; refine (quoteMay_any _ (by assumption) _).mono ?_; rintro e w' ⟨rfl, rfl⟩) | (go_at_call 88; refine (nameMay_any _ (by assumption) _).mono ?_; rintro e w' ⟨rfl, rfl⟩))
  go_loopw [7] (fun i wr => ∃ j : Nat, j ≤ xs.length ∧ i = .int .i64 j ∧ (∀ q (hq : q < xs.length), q < j → exFault xs[q] (d + 1) = 0) ∧ Below (w.heap.size + 1) (w.alloc (.cells #[.int .i64 1, .int .i64 n, .string f, .string s, .slice a xs.length cap] 87)) wr) (fun i _ => xs.length - (intOf i).toNat)
  case atStart => exact ⟨0, Nat.zero_le _, rfl, fun q _ h => absurd h (by omega), Below.refl _ _⟩
  case round =>
    obtain ⟨j, hj, rfl, hall, hbl⟩ := hrel
    have HA := veil hall
    clear hall
    have hc := fun o => hbl.cell (p := ⟨w.heap.size, o, none⟩) (by show w.heap.size < w.heap.size + 1; omega)
    have hbs : w.heap.size + 1 ≤ wr.heap.size := by have := hbl.size; simpa using this
    have HL := veil (HB.out.trans (hbl.mono (by omega)))
    have HBL := veil hbl
    clear hbl
    by_cases hlt : j < xs.length
    · rcases HREST.out with h0 | ⟨b, off, rfl, hb, hrow⟩
      · omega
      have hbw := hS b hb
      obtain ⟨kd, nu, fo, na, va, c0, c1, c2, c3, c4, hcs⟩ := exAt_cells.1 (hrow.get j hlt)
      obtain ⟨va1, va2, va3, rfl⟩ := hcs.slice
      have d0 := (HL.out.cell (p := ⟨b, off + j * 5, none⟩) hbw).trans c0
      have d1 := (HL.out.cell (p := ⟨b, off + j * 5 + 1, none⟩) hbw).trans c1
      have d2 := (HL.out.cell (p := ⟨b, off + j * 5 + 2, none⟩) hbw).trans c2
      have d3 := (HL.out.cell (p := ⟨b, off + j * 5 + 3, none⟩) hbw).trans c3
      have d4 := (HL.out.cell (p := ⟨b, off + j * 5 + 4, none⟩) hbw).trans c4
      have cI := HIH.out S xs[j] (.agg #[.int .i64 kd, .int .i64 nu, .string fo, .string na, .slice va1 va2 va3]) wr (fun b h => by have := hS b h; omega) ⟨_, _, _, _, _, rfl, hcs.keep (Keeps.below HL.out hS)⟩
      have en : ((d + 1 : Nat) : Int) = (d : Int) + 1 := by omega
      rw [en] at cI
      clear c0 c1 c2 c3 c4 hcs hrow HIH HREST
      by_cases hz : exFault xs[j] (d + 1) = 0
      · have hz' : (exFault xs[j] (d + 1) != 0) = false := by simp [hz]
        have HN : Hid (∀ q (hq : q < xs.length), q < j + 1 → exFault xs[q] (d + 1) = 0) := fun q hq hqj => by
          by_cases e : q = j
          · subst e; exact hz
          · exact HA.out q hq (by omega)
        clear hz HA
        generalize exFault xs[j] (d + 1) = fk at *
        go_wp2_with fail
        refine cI.mono ?_
        rintro e w' ⟨rfl, hb'⟩
        go_wp2_with fail
        exact ⟨⟨j + 1, by omega, by go_num, HN.out, HBL.out.trans (hb'.mono hbs)⟩, by simp [intOf]; omega⟩
      · have hz' : (exFault xs[j] (d + 1) != 0) = true := by simp [hz]
        have HFF := veil (HF.out.trans (firstBad_at (fun t => exFault t (d + 1)) xs j hlt (fun q hq => HA.out q (by omega) hq) hz))
        clear hz HA
        generalize exFault xs[j] (d + 1) = fk at *
        go_wp2_with fail
        refine cI.mono ?_
        rintro e w' ⟨rfl, hb'⟩
        go_wp2_with fail
        go_ret
        exact ⟨by rw [HFF.out]; rfl, HL.out.trans (hb'.mono (by omega))⟩
    · have HFF := veil (HF.out.trans (firstBad_none (fun t => exFault t (d + 1)) xs fun q hq => HA.out q hq (by omega)))
      clear HREST HIH
      go_wp2_with fail
      go_ret
      exact ⟨by rw [HFF.out]; rfl, HL.out⟩

set_option maxHeartbeats 8000000 in
set_option maxRecDepth 100000 in
theorem exprFault_k2 (d : Nat) (hd1 : d < 1000) (hd0 : ¬ 10 < d) (ih : ExprFaultAt (d + 1)) (S : Nat → Prop) (n : Int) (f s : ByteArray) (xs : List Ex) (a : Option Addr) (cap : Nat) (w : World) (_hf : f.size ≤ maxLen) (hs : s.size ≤ maxLen) (hS : ∀ b, S b → b < w.heap.size)
    (h8 : ¬ 8 < xs.length) (hrest : xs.length = 0 ∨ ∃ b o, a = some ⟨b, o, none⟩ ∧ S b ∧ RowAt (ExAt S w) 5 xs b o) :
    Calls Tryz.prog 216 #[.agg #[.int .i64 2, .int .i64 n, .string f, .string s, .slice a xs.length cap], .int .i64 d] w fun e w' => e = .returned (.int .i64 (exFault (.mk 2 n f s xs) d)) ∧ Below w.heap.size w w' := by
  have HIH := veil ih
  have HREST := veil hrest
  clear ih hrest
  have hd' : ¬ (10 : Int) < (d : Int) := by omega
  have h8' : ¬ (8 : Int) < (xs.length : Int) := by omega
  have HB : Hid (Below w.heap.size w (w.alloc (.cells #[.int .i64 2, .int .i64 n, .string f, .string s, .slice a xs.length cap] 87))) := (Below.refl _ _).alloc (Nat.le_refl _) _
  have HT := veil (exFault_tail (n := n) (f := f) (s := s) hd0 (show isIn 2 1 7 = true from rfl) h8)
  have hin : isIn 2 1 7 = true := rfl
  have HNm : Hid (namesFit 2 f s = (quoteOk s && (f.toList == []))) := by show _ = _; rw [noneB_text]; rfl
  have HCt : Hid (countFits 2 xs.length = ((xs.length : Int) == 0)) := (len_eq xs.length 0).symm
  cases hA : (n != 0)
  case true =>
    have HF : Hid (exFault (.mk 2 n f s xs) d = 4) := by show _ = _; rw [HT.out, if_pos (Or.inl ⟨bne_iff_ne.1 hA, by decide⟩)]
    clear HT HNm HCt HIH HREST
    go_enter Tryz.func216, Tryz.ntmps216
    go_wp2_with (first | (go_at_call 138; refine (in_any _ _ _ _).mono ?_; rintro e w' ⟨rfl, rfl⟩) | (go_at_call 211; refine (quoteMay_any _ (by assumption) _).mono ?_; rintro e w' ⟨rfl, rfl⟩) | (go_at_call 88; refine (nameMay_any _ (by assumption) _).mono ?_; rintro e w' ⟨rfl, rfl⟩))
    go_ret
    exact ⟨by rw [HF.out]; rfl, HB.out⟩
  have hn : n = 0 := by
    by_cases h : n = 0
    · exact h
    · rw [bne_iff_ne.2 h] at hA; cases hA
  subst hn
  clear hA
  cases hF : (f.toList == [])
  case false =>
    have HF : Hid (exFault (.mk 2 0 f s xs) d = 4) := by show _ = _; rw [HT.out, if_pos (Or.inr (Or.inl (HNm.out.trans (by rw [hF]; simp))))]
    clear HT HNm HCt HIH HREST
    go_enter Tryz.func216, Tryz.ntmps216
    go_wp2_with (first | (go_at_call 138; refine (in_any _ _ _ _).mono ?_; rintro e w' ⟨rfl, rfl⟩) | (go_at_call 211; refine (quoteMay_any _ (by assumption) _).mono ?_; rintro e w' ⟨rfl, rfl⟩) | (go_at_call 88; refine (nameMay_any _ (by assumption) _).mono ?_; rintro e w' ⟨rfl, rfl⟩))
    go_ret
    exact ⟨by rw [HF.out]; rfl, HB.out⟩
  cases hQ : (quoteOk s)
  case false =>
    have HF : Hid (exFault (.mk 2 0 f s xs) d = 4) := by show _ = _; rw [HT.out, if_pos (Or.inr (Or.inl (HNm.out.trans (by rw [hQ]; simp))))]
    clear HT HNm HCt HIH HREST
    go_enter Tryz.func216, Tryz.ntmps216
    go_wp2_with (first | (go_at_call 138; refine (in_any _ _ _ _).mono ?_; rintro e w' ⟨rfl, rfl⟩) | (go_at_call 211; refine (quoteMay_any _ (by assumption) _).mono ?_; rintro e w' ⟨rfl, rfl⟩) | (go_at_call 88; refine (nameMay_any _ (by assumption) _).mono ?_; rintro e w' ⟨rfl, rfl⟩))
    go_ret
    exact ⟨by rw [HF.out]; rfl, HB.out⟩
  cases hC : ((xs.length : Int) == 0)
  case false =>
    have HF : Hid (exFault (.mk 2 0 f s xs) d = 4) := by show _ = _; rw [HT.out, if_pos (Or.inr (Or.inr (HCt.out.trans hC)))]
    clear HT HNm HCt HIH HREST
    go_enter Tryz.func216, Tryz.ntmps216
    go_wp2_with (first | (go_at_call 138; refine (in_any _ _ _ _).mono ?_; rintro e w' ⟨rfl, rfl⟩) | (go_at_call 211; refine (quoteMay_any _ (by assumption) _).mono ?_; rintro e w' ⟨rfl, rfl⟩) | (go_at_call 88; refine (nameMay_any _ (by assumption) _).mono ?_; rintro e w' ⟨rfl, rfl⟩))
    go_ret
    exact ⟨by rw [HF.out]; rfl, HB.out⟩
  have HF : Hid (exFault (.mk 2 0 f s xs) d = firstBad (fun t => exFault t (d + 1)) xs) := by
    show _ = _
    rw [HT.out, if_neg, if_neg (by rw [show isIn 0 0 999999 = true from rfl]; simp), exsFault_first]
    rintro (h | h | h)
    · exact h.1 rfl
    · rw [HNm.out, hQ, hF] at h; cases h
    · rw [HCt.out, hC] at h; cases h
  clear HT HNm HCt

  go_enter Tryz.func216, Tryz.ntmps216
  go_wp2_with (first | (go_at_call 138; refine (in_any _ _ _ _).mono ?_; rintro e w' ⟨rfl, rfl⟩) | (go_at_call 211; refine (quoteMay_any _ (by assumption) _).mono ?_; rintro e w' ⟨rfl, rfl⟩) | (go_at_call 88; refine (nameMay_any _ (by assumption) _).mono ?_; rintro e w' ⟨rfl, rfl⟩))
  go_loopw [7] (fun i wr => ∃ j : Nat, j ≤ xs.length ∧ i = .int .i64 j ∧ (∀ q (hq : q < xs.length), q < j → exFault xs[q] (d + 1) = 0) ∧ Below (w.heap.size + 1) (w.alloc (.cells #[.int .i64 2, .int .i64 0, .string f, .string s, .slice a xs.length cap] 87)) wr) (fun i _ => xs.length - (intOf i).toNat)
  case atStart => exact ⟨0, Nat.zero_le _, rfl, fun q _ h => absurd h (by omega), Below.refl _ _⟩
  case round =>
    obtain ⟨j, hj, rfl, hall, hbl⟩ := hrel
    have HA := veil hall
    clear hall
    have hc := fun o => hbl.cell (p := ⟨w.heap.size, o, none⟩) (by show w.heap.size < w.heap.size + 1; omega)
    have hbs : w.heap.size + 1 ≤ wr.heap.size := by have := hbl.size; simpa using this
    have HL := veil (HB.out.trans (hbl.mono (by omega)))
    have HBL := veil hbl
    clear hbl
    by_cases hlt : j < xs.length
    · rcases HREST.out with h0 | ⟨b, off, rfl, hb, hrow⟩
      · omega
      have hbw := hS b hb
      obtain ⟨kd, nu, fo, na, va, c0, c1, c2, c3, c4, hcs⟩ := exAt_cells.1 (hrow.get j hlt)
      obtain ⟨va1, va2, va3, rfl⟩ := hcs.slice
      have d0 := (HL.out.cell (p := ⟨b, off + j * 5, none⟩) hbw).trans c0
      have d1 := (HL.out.cell (p := ⟨b, off + j * 5 + 1, none⟩) hbw).trans c1
      have d2 := (HL.out.cell (p := ⟨b, off + j * 5 + 2, none⟩) hbw).trans c2
      have d3 := (HL.out.cell (p := ⟨b, off + j * 5 + 3, none⟩) hbw).trans c3
      have d4 := (HL.out.cell (p := ⟨b, off + j * 5 + 4, none⟩) hbw).trans c4
      have cI := HIH.out S xs[j] (.agg #[.int .i64 kd, .int .i64 nu, .string fo, .string na, .slice va1 va2 va3]) wr (fun b h => by have := hS b h; omega) ⟨_, _, _, _, _, rfl, hcs.keep (Keeps.below HL.out hS)⟩
      have en : ((d + 1 : Nat) : Int) = (d : Int) + 1 := by omega
      rw [en] at cI
      clear c0 c1 c2 c3 c4 hcs hrow HIH HREST
      by_cases hz : exFault xs[j] (d + 1) = 0
      · have hz' : (exFault xs[j] (d + 1) != 0) = false := by simp [hz]
        have HN : Hid (∀ q (hq : q < xs.length), q < j + 1 → exFault xs[q] (d + 1) = 0) := fun q hq hqj => by
          by_cases e : q = j
          · subst e; exact hz
          · exact HA.out q hq (by omega)
        clear hz HA
        generalize exFault xs[j] (d + 1) = fk at *
        go_wp2_with fail
        refine cI.mono ?_
        rintro e w' ⟨rfl, hb'⟩
        go_wp2_with fail
        exact ⟨⟨j + 1, by omega, by go_num, HN.out, HBL.out.trans (hb'.mono hbs)⟩, by simp [intOf]; omega⟩
      · have hz' : (exFault xs[j] (d + 1) != 0) = true := by simp [hz]
        have HFF := veil (HF.out.trans (firstBad_at (fun t => exFault t (d + 1)) xs j hlt (fun q hq => HA.out q (by omega) hq) hz))
        clear hz HA
        generalize exFault xs[j] (d + 1) = fk at *
        go_wp2_with fail
        refine cI.mono ?_
        rintro e w' ⟨rfl, hb'⟩
        go_wp2_with fail
        go_ret
        exact ⟨by rw [HFF.out]; rfl, HL.out.trans (hb'.mono (by omega))⟩
    · have HFF := veil (HF.out.trans (firstBad_none (fun t => exFault t (d + 1)) xs fun q hq => HA.out q hq (by omega)))
      clear HREST HIH
      go_wp2_with fail
      go_ret
      exact ⟨by rw [HFF.out]; rfl, HL.out⟩

set_option maxHeartbeats 8000000 in
set_option maxRecDepth 100000 in
theorem exprFault_k3 (d : Nat) (hd1 : d < 1000) (hd0 : ¬ 10 < d) (ih : ExprFaultAt (d + 1)) (S : Nat → Prop) (n : Int) (f s : ByteArray) (xs : List Ex) (a : Option Addr) (cap : Nat) (w : World) (_hf : f.size ≤ maxLen) (hs : s.size ≤ maxLen) (hS : ∀ b, S b → b < w.heap.size)
    (h8 : ¬ 8 < xs.length) (hrest : xs.length = 0 ∨ ∃ b o, a = some ⟨b, o, none⟩ ∧ S b ∧ RowAt (ExAt S w) 5 xs b o) :
    Calls Tryz.prog 216 #[.agg #[.int .i64 3, .int .i64 n, .string f, .string s, .slice a xs.length cap], .int .i64 d] w fun e w' => e = .returned (.int .i64 (exFault (.mk 3 n f s xs) d)) ∧ Below w.heap.size w w' := by
  have HIH := veil ih
  have HREST := veil hrest
  clear ih hrest
  have hd' : ¬ (10 : Int) < (d : Int) := by omega
  have h8' : ¬ (8 : Int) < (xs.length : Int) := by omega
  have HB : Hid (Below w.heap.size w (w.alloc (.cells #[.int .i64 3, .int .i64 n, .string f, .string s, .slice a xs.length cap] 87))) := (Below.refl _ _).alloc (Nat.le_refl _) _
  have HT := veil (exFault_tail (n := n) (f := f) (s := s) hd0 (show isIn 3 1 7 = true from rfl) h8)
  have hin : isIn 3 1 7 = true := rfl
  have HNm : Hid (namesFit 3 f s = (identOk s && (f.toList == []))) := by show _ = _; rw [noneB_text]; rfl
  have HCt : Hid (countFits 3 xs.length = ((xs.length : Int) == 0)) := (len_eq xs.length 0).symm
  cases hA : (n != 0)
  case true =>
    have HF : Hid (exFault (.mk 3 n f s xs) d = 4) := by show _ = _; rw [HT.out, if_pos (Or.inl ⟨bne_iff_ne.1 hA, by decide⟩)]
    clear HT HNm HCt HIH HREST
    go_enter Tryz.func216, Tryz.ntmps216
    go_wp2_with (first | (go_at_call 138; refine (in_any _ _ _ _).mono ?_; rintro e w' ⟨rfl, rfl⟩) | (go_at_call 211; refine (quoteMay_any _ (by assumption) _).mono ?_; rintro e w' ⟨rfl, rfl⟩) | (go_at_call 88; refine (nameMay_any _ (by assumption) _).mono ?_; rintro e w' ⟨rfl, rfl⟩))
    go_ret
    exact ⟨by rw [HF.out]; rfl, HB.out⟩
  have hn : n = 0 := by
    by_cases h : n = 0
    · exact h
    · rw [bne_iff_ne.2 h] at hA; cases hA
  subst hn
  clear hA
  cases hF : (f.toList == [])
  case false =>
    have HF : Hid (exFault (.mk 3 0 f s xs) d = 4) := by show _ = _; rw [HT.out, if_pos (Or.inr (Or.inl (HNm.out.trans (by rw [hF]; simp))))]
    clear HT HNm HCt HIH HREST
    go_enter Tryz.func216, Tryz.ntmps216
    go_wp2_with (first | (go_at_call 138; refine (in_any _ _ _ _).mono ?_; rintro e w' ⟨rfl, rfl⟩) | (go_at_call 211; refine (quoteMay_any _ (by assumption) _).mono ?_; rintro e w' ⟨rfl, rfl⟩) | (go_at_call 88; refine (nameMay_any _ (by assumption) _).mono ?_; rintro e w' ⟨rfl, rfl⟩))
    go_ret
    exact ⟨by rw [HF.out]; rfl, HB.out⟩
  cases hI : (identOk s)
  case false =>
    have HF : Hid (exFault (.mk 3 0 f s xs) d = 4) := by show _ = _; rw [HT.out, if_pos (Or.inr (Or.inl (HNm.out.trans (by rw [hI]; simp))))]
    clear HT HNm HCt HIH HREST
    go_enter Tryz.func216, Tryz.ntmps216
    go_wp2_with (first | (go_at_call 138; refine (in_any _ _ _ _).mono ?_; rintro e w' ⟨rfl, rfl⟩) | (go_at_call 211; refine (quoteMay_any _ (by assumption) _).mono ?_; rintro e w' ⟨rfl, rfl⟩) | (go_at_call 88; refine (nameMay_any _ (by assumption) _).mono ?_; rintro e w' ⟨rfl, rfl⟩))
    go_ret
    exact ⟨by rw [HF.out]; rfl, HB.out⟩
  cases hC : ((xs.length : Int) == 0)
  case false =>
    have HF : Hid (exFault (.mk 3 0 f s xs) d = 4) := by show _ = _; rw [HT.out, if_pos (Or.inr (Or.inr (HCt.out.trans hC)))]
    clear HT HNm HCt HIH HREST
    go_enter Tryz.func216, Tryz.ntmps216
    go_wp2_with (first | (go_at_call 138; refine (in_any _ _ _ _).mono ?_; rintro e w' ⟨rfl, rfl⟩) | (go_at_call 211; refine (quoteMay_any _ (by assumption) _).mono ?_; rintro e w' ⟨rfl, rfl⟩) | (go_at_call 88; refine (nameMay_any _ (by assumption) _).mono ?_; rintro e w' ⟨rfl, rfl⟩))
    go_ret
    exact ⟨by rw [HF.out]; rfl, HB.out⟩
  have HF : Hid (exFault (.mk 3 0 f s xs) d = firstBad (fun t => exFault t (d + 1)) xs) := by
    show _ = _
    rw [HT.out, if_neg, if_neg (by rw [show isIn 0 0 999999 = true from rfl]; simp), exsFault_first]
    rintro (h | h | h)
    · exact h.1 rfl
    · rw [HNm.out, hI, hF] at h; cases h
    · rw [HCt.out, hC] at h; cases h
  clear HT HNm HCt

  go_enter Tryz.func216, Tryz.ntmps216
  go_wp2_with (first | (go_at_call 138; refine (in_any _ _ _ _).mono ?_; rintro e w' ⟨rfl, rfl⟩) | (go_at_call 211; refine (quoteMay_any _ (by assumption) _).mono ?_; rintro e w' ⟨rfl, rfl⟩) | (go_at_call 88; refine (nameMay_any _ (by assumption) _).mono ?_; rintro e w' ⟨rfl, rfl⟩))
  go_loopw [7] (fun i wr => ∃ j : Nat, j ≤ xs.length ∧ i = .int .i64 j ∧ (∀ q (hq : q < xs.length), q < j → exFault xs[q] (d + 1) = 0) ∧ Below (w.heap.size + 1) (w.alloc (.cells #[.int .i64 3, .int .i64 0, .string f, .string s, .slice a xs.length cap] 87)) wr) (fun i _ => xs.length - (intOf i).toNat)
  case atStart => exact ⟨0, Nat.zero_le _, rfl, fun q _ h => absurd h (by omega), Below.refl _ _⟩
  case round =>
    obtain ⟨j, hj, rfl, hall, hbl⟩ := hrel
    have HA := veil hall
    clear hall
    have hc := fun o => hbl.cell (p := ⟨w.heap.size, o, none⟩) (by show w.heap.size < w.heap.size + 1; omega)
    have hbs : w.heap.size + 1 ≤ wr.heap.size := by have := hbl.size; simpa using this
    have HL := veil (HB.out.trans (hbl.mono (by omega)))
    have HBL := veil hbl
    clear hbl
    by_cases hlt : j < xs.length
    · rcases HREST.out with h0 | ⟨b, off, rfl, hb, hrow⟩
      · omega
      have hbw := hS b hb
      obtain ⟨kd, nu, fo, na, va, c0, c1, c2, c3, c4, hcs⟩ := exAt_cells.1 (hrow.get j hlt)
      obtain ⟨va1, va2, va3, rfl⟩ := hcs.slice
      have d0 := (HL.out.cell (p := ⟨b, off + j * 5, none⟩) hbw).trans c0
      have d1 := (HL.out.cell (p := ⟨b, off + j * 5 + 1, none⟩) hbw).trans c1
      have d2 := (HL.out.cell (p := ⟨b, off + j * 5 + 2, none⟩) hbw).trans c2
      have d3 := (HL.out.cell (p := ⟨b, off + j * 5 + 3, none⟩) hbw).trans c3
      have d4 := (HL.out.cell (p := ⟨b, off + j * 5 + 4, none⟩) hbw).trans c4
      have cI := HIH.out S xs[j] (.agg #[.int .i64 kd, .int .i64 nu, .string fo, .string na, .slice va1 va2 va3]) wr (fun b h => by have := hS b h; omega) ⟨_, _, _, _, _, rfl, hcs.keep (Keeps.below HL.out hS)⟩
      have en : ((d + 1 : Nat) : Int) = (d : Int) + 1 := by omega
      rw [en] at cI
      clear c0 c1 c2 c3 c4 hcs hrow HIH HREST
      by_cases hz : exFault xs[j] (d + 1) = 0
      · have hz' : (exFault xs[j] (d + 1) != 0) = false := by simp [hz]
        have HN : Hid (∀ q (hq : q < xs.length), q < j + 1 → exFault xs[q] (d + 1) = 0) := fun q hq hqj => by
          by_cases e : q = j
          · subst e; exact hz
          · exact HA.out q hq (by omega)
        clear hz HA
        generalize exFault xs[j] (d + 1) = fk at *
        go_wp2_with fail
        refine cI.mono ?_
        rintro e w' ⟨rfl, hb'⟩
        go_wp2_with fail
        exact ⟨⟨j + 1, by omega, by go_num, HN.out, HBL.out.trans (hb'.mono hbs)⟩, by simp [intOf]; omega⟩
      · have hz' : (exFault xs[j] (d + 1) != 0) = true := by simp [hz]
        have HFF := veil (HF.out.trans (firstBad_at (fun t => exFault t (d + 1)) xs j hlt (fun q hq => HA.out q (by omega) hq) hz))
        clear hz HA
        generalize exFault xs[j] (d + 1) = fk at *
        go_wp2_with fail
        refine cI.mono ?_
        rintro e w' ⟨rfl, hb'⟩
        go_wp2_with fail
        go_ret
        exact ⟨by rw [HFF.out]; rfl, HL.out.trans (hb'.mono (by omega))⟩
    · have HFF := veil (HF.out.trans (firstBad_none (fun t => exFault t (d + 1)) xs fun q hq => HA.out q hq (by omega)))
      clear HREST HIH
      go_wp2_with fail
      go_ret
      exact ⟨by rw [HFF.out]; rfl, HL.out⟩

set_option maxHeartbeats 8000000 in
set_option maxRecDepth 100000 in
theorem exprFault_k4 (d : Nat) (hd1 : d < 1000) (hd0 : ¬ 10 < d) (ih : ExprFaultAt (d + 1)) (S : Nat → Prop) (n : Int) (f s : ByteArray) (xs : List Ex) (a : Option Addr) (cap : Nat) (w : World) (hf : f.size ≤ maxLen) (hs : s.size ≤ maxLen) (hS : ∀ b, S b → b < w.heap.size)
    (h8 : ¬ 8 < xs.length) (hrest : xs.length = 0 ∨ ∃ b o, a = some ⟨b, o, none⟩ ∧ S b ∧ RowAt (ExAt S w) 5 xs b o) :
    Calls Tryz.prog 216 #[.agg #[.int .i64 4, .int .i64 n, .string f, .string s, .slice a xs.length cap], .int .i64 d] w fun e w' => e = .returned (.int .i64 (exFault (.mk 4 n f s xs) d)) ∧ Below w.heap.size w w' := by
  have HIH := veil ih
  have HREST := veil hrest
  clear ih hrest
  have hd' : ¬ (10 : Int) < (d : Int) := by omega
  have h8' : ¬ (8 : Int) < (xs.length : Int) := by omega
  have HB : Hid (Below w.heap.size w (w.alloc (.cells #[.int .i64 4, .int .i64 n, .string f, .string s, .slice a xs.length cap] 87))) := (Below.refl _ _).alloc (Nat.le_refl _) _
  have HT := veil (exFault_tail (n := n) (f := f) (s := s) hd0 (show isIn 4 1 7 = true from rfl) h8)
  have hin : isIn 4 1 7 = true := rfl
  have HNm : Hid (namesFit 4 f s = (identOk s && ((f.toList == []) || identOk f))) := by show _ = _; rw [noneB_text]; rfl
  have HCt : Hid (countFits 4 xs.length = (true)) := rfl
  cases hA : (n != 0)
  case true =>
    have HF : Hid (exFault (.mk 4 n f s xs) d = 4) := by show _ = _; rw [HT.out, if_pos (Or.inl ⟨bne_iff_ne.1 hA, by decide⟩)]
    clear HT HNm HCt HIH HREST
    go_enter Tryz.func216, Tryz.ntmps216
    go_wp2_with (first | (go_at_call 138; refine (in_any _ _ _ _).mono ?_; rintro e w' ⟨rfl, rfl⟩) | (go_at_call 211; refine (quoteMay_any _ (by assumption) _).mono ?_; rintro e w' ⟨rfl, rfl⟩) | (go_at_call 88; refine (nameMay_any _ (by assumption) _).mono ?_; rintro e w' ⟨rfl, rfl⟩))
    go_ret
    exact ⟨by rw [HF.out]; rfl, HB.out⟩
  have hn : n = 0 := by
    by_cases h : n = 0
    · exact h
    · rw [bne_iff_ne.2 h] at hA; cases hA
  subst hn
  clear hA
  cases hI : (identOk s)
  case false =>
    have HF : Hid (exFault (.mk 4 0 f s xs) d = 4) := by show _ = _; rw [HT.out, if_pos (Or.inr (Or.inl (HNm.out.trans (by rw [hI]; simp))))]
    clear HT HNm HCt HIH HREST
    go_enter Tryz.func216, Tryz.ntmps216
    go_wp2_with (first | (go_at_call 138; refine (in_any _ _ _ _).mono ?_; rintro e w' ⟨rfl, rfl⟩) | (go_at_call 211; refine (quoteMay_any _ (by assumption) _).mono ?_; rintro e w' ⟨rfl, rfl⟩) | (go_at_call 88; refine (nameMay_any _ (by assumption) _).mono ?_; rintro e w' ⟨rfl, rfl⟩))
    go_ret
    exact ⟨by rw [HF.out]; rfl, HB.out⟩
  cases hF : (f.toList == [])
  case false =>
    cases hJ : identOk f
    case false =>
      have HF : Hid (exFault (.mk 4 0 f s xs) d = 4) := by show _ = _; rw [HT.out, if_pos (Or.inr (Or.inl (HNm.out.trans (by rw [hI, hF, hJ]; rfl))))]
      clear HT HNm HCt HIH HREST
      go_enter Tryz.func216, Tryz.ntmps216
      go_wp2_with (first | (go_at_call 138; refine (in_any _ _ _ _).mono ?_; rintro e w' ⟨rfl, rfl⟩) | (go_at_call 211; refine (quoteMay_any _ (by assumption) _).mono ?_; rintro e w' ⟨rfl, rfl⟩) | (go_at_call 88; refine (nameMay_any _ (by assumption) _).mono ?_; rintro e w' ⟨rfl, rfl⟩))
      go_ret
      exact ⟨by rw [HF.out]; rfl, HB.out⟩
    have HF : Hid (exFault (.mk 4 0 f s xs) d = firstBad (fun t => exFault t (d + 1)) xs) := by
      show _ = _
      rw [HT.out, if_neg, if_neg (by rw [show isIn 0 0 999999 = true from rfl]; simp), exsFault_first]
      rintro (h | h | h)
      · exact h.1 rfl
      · rw [HNm.out, hI, hF, hJ] at h; cases h
      · rw [HCt.out] at h; cases h
    clear HT HNm HCt

    go_enter Tryz.func216, Tryz.ntmps216
    go_wp2_with (first | (go_at_call 138; refine (in_any _ _ _ _).mono ?_; rintro e w' ⟨rfl, rfl⟩) | (go_at_call 211; refine (quoteMay_any _ (by assumption) _).mono ?_; rintro e w' ⟨rfl, rfl⟩) | (go_at_call 88; refine (nameMay_any _ (by assumption) _).mono ?_; rintro e w' ⟨rfl, rfl⟩))
    go_loopw [7] (fun i wr => ∃ j : Nat, j ≤ xs.length ∧ i = .int .i64 j ∧ (∀ q (hq : q < xs.length), q < j → exFault xs[q] (d + 1) = 0) ∧ Below (w.heap.size + 1) (w.alloc (.cells #[.int .i64 4, .int .i64 0, .string f, .string s, .slice a xs.length cap] 87)) wr) (fun i _ => xs.length - (intOf i).toNat)
    case atStart => exact ⟨0, Nat.zero_le _, rfl, fun q _ h => absurd h (by omega), Below.refl _ _⟩
    case round =>
      obtain ⟨j, hj, rfl, hall, hbl⟩ := hrel
      have HA := veil hall
      clear hall
      have hc := fun o => hbl.cell (p := ⟨w.heap.size, o, none⟩) (by show w.heap.size < w.heap.size + 1; omega)
      have hbs : w.heap.size + 1 ≤ wr.heap.size := by have := hbl.size; simpa using this
      have HL := veil (HB.out.trans (hbl.mono (by omega)))
      have HBL := veil hbl
      clear hbl
      by_cases hlt : j < xs.length
      · rcases HREST.out with h0 | ⟨b, off, rfl, hb, hrow⟩
        · omega
        have hbw := hS b hb
        obtain ⟨kd, nu, fo, na, va, c0, c1, c2, c3, c4, hcs⟩ := exAt_cells.1 (hrow.get j hlt)
        obtain ⟨va1, va2, va3, rfl⟩ := hcs.slice
        have d0 := (HL.out.cell (p := ⟨b, off + j * 5, none⟩) hbw).trans c0
        have d1 := (HL.out.cell (p := ⟨b, off + j * 5 + 1, none⟩) hbw).trans c1
        have d2 := (HL.out.cell (p := ⟨b, off + j * 5 + 2, none⟩) hbw).trans c2
        have d3 := (HL.out.cell (p := ⟨b, off + j * 5 + 3, none⟩) hbw).trans c3
        have d4 := (HL.out.cell (p := ⟨b, off + j * 5 + 4, none⟩) hbw).trans c4
        have cI := HIH.out S xs[j] (.agg #[.int .i64 kd, .int .i64 nu, .string fo, .string na, .slice va1 va2 va3]) wr (fun b h => by have := hS b h; omega) ⟨_, _, _, _, _, rfl, hcs.keep (Keeps.below HL.out hS)⟩
        have en : ((d + 1 : Nat) : Int) = (d : Int) + 1 := by omega
        rw [en] at cI
        clear c0 c1 c2 c3 c4 hcs hrow HIH HREST
        by_cases hz : exFault xs[j] (d + 1) = 0
        · have hz' : (exFault xs[j] (d + 1) != 0) = false := by simp [hz]
          have HN : Hid (∀ q (hq : q < xs.length), q < j + 1 → exFault xs[q] (d + 1) = 0) := fun q hq hqj => by
            by_cases e : q = j
            · subst e; exact hz
            · exact HA.out q hq (by omega)
          clear hz HA
          generalize exFault xs[j] (d + 1) = fk at *
          go_wp2_with fail
          refine cI.mono ?_
          rintro e w' ⟨rfl, hb'⟩
          go_wp2_with fail
          exact ⟨⟨j + 1, by omega, by go_num, HN.out, HBL.out.trans (hb'.mono hbs)⟩, by simp [intOf]; omega⟩
        · have hz' : (exFault xs[j] (d + 1) != 0) = true := by simp [hz]
          have HFF := veil (HF.out.trans (firstBad_at (fun t => exFault t (d + 1)) xs j hlt (fun q hq => HA.out q (by omega) hq) hz))
          clear hz HA
          generalize exFault xs[j] (d + 1) = fk at *
          go_wp2_with fail
          refine cI.mono ?_
          rintro e w' ⟨rfl, hb'⟩
          go_wp2_with fail
          go_ret
          exact ⟨by rw [HFF.out]; rfl, HL.out.trans (hb'.mono (by omega))⟩
      · have HFF := veil (HF.out.trans (firstBad_none (fun t => exFault t (d + 1)) xs fun q hq => HA.out q hq (by omega)))
        clear HREST HIH
        go_wp2_with fail
        go_ret
        exact ⟨by rw [HFF.out]; rfl, HL.out⟩
  have HF : Hid (exFault (.mk 4 0 f s xs) d = firstBad (fun t => exFault t (d + 1)) xs) := by
    show _ = _
    rw [HT.out, if_neg, if_neg (by rw [show isIn 0 0 999999 = true from rfl]; simp), exsFault_first]
    rintro (h | h | h)
    · exact h.1 rfl
    · rw [HNm.out, hI, hF] at h; cases h
    · rw [HCt.out] at h; cases h
  clear HT HNm HCt

  go_enter Tryz.func216, Tryz.ntmps216
  go_wp2_with (first | (go_at_call 138; refine (in_any _ _ _ _).mono ?_; rintro e w' ⟨rfl, rfl⟩) | (go_at_call 211; refine (quoteMay_any _ (by assumption) _).mono ?_; rintro e w' ⟨rfl, rfl⟩) | (go_at_call 88; refine (nameMay_any _ (by assumption) _).mono ?_; rintro e w' ⟨rfl, rfl⟩))
  go_loopw [7] (fun i wr => ∃ j : Nat, j ≤ xs.length ∧ i = .int .i64 j ∧ (∀ q (hq : q < xs.length), q < j → exFault xs[q] (d + 1) = 0) ∧ Below (w.heap.size + 1) (w.alloc (.cells #[.int .i64 4, .int .i64 0, .string f, .string s, .slice a xs.length cap] 87)) wr) (fun i _ => xs.length - (intOf i).toNat)
  case atStart => exact ⟨0, Nat.zero_le _, rfl, fun q _ h => absurd h (by omega), Below.refl _ _⟩
  case round =>
    obtain ⟨j, hj, rfl, hall, hbl⟩ := hrel
    have HA := veil hall
    clear hall
    have hc := fun o => hbl.cell (p := ⟨w.heap.size, o, none⟩) (by show w.heap.size < w.heap.size + 1; omega)
    have hbs : w.heap.size + 1 ≤ wr.heap.size := by have := hbl.size; simpa using this
    have HL := veil (HB.out.trans (hbl.mono (by omega)))
    have HBL := veil hbl
    clear hbl
    by_cases hlt : j < xs.length
    · rcases HREST.out with h0 | ⟨b, off, rfl, hb, hrow⟩
      · omega
      have hbw := hS b hb
      obtain ⟨kd, nu, fo, na, va, c0, c1, c2, c3, c4, hcs⟩ := exAt_cells.1 (hrow.get j hlt)
      obtain ⟨va1, va2, va3, rfl⟩ := hcs.slice
      have d0 := (HL.out.cell (p := ⟨b, off + j * 5, none⟩) hbw).trans c0
      have d1 := (HL.out.cell (p := ⟨b, off + j * 5 + 1, none⟩) hbw).trans c1
      have d2 := (HL.out.cell (p := ⟨b, off + j * 5 + 2, none⟩) hbw).trans c2
      have d3 := (HL.out.cell (p := ⟨b, off + j * 5 + 3, none⟩) hbw).trans c3
      have d4 := (HL.out.cell (p := ⟨b, off + j * 5 + 4, none⟩) hbw).trans c4
      have cI := HIH.out S xs[j] (.agg #[.int .i64 kd, .int .i64 nu, .string fo, .string na, .slice va1 va2 va3]) wr (fun b h => by have := hS b h; omega) ⟨_, _, _, _, _, rfl, hcs.keep (Keeps.below HL.out hS)⟩
      have en : ((d + 1 : Nat) : Int) = (d : Int) + 1 := by omega
      rw [en] at cI
      clear c0 c1 c2 c3 c4 hcs hrow HIH HREST
      by_cases hz : exFault xs[j] (d + 1) = 0
      · have hz' : (exFault xs[j] (d + 1) != 0) = false := by simp [hz]
        have HN : Hid (∀ q (hq : q < xs.length), q < j + 1 → exFault xs[q] (d + 1) = 0) := fun q hq hqj => by
          by_cases e : q = j
          · subst e; exact hz
          · exact HA.out q hq (by omega)
        clear hz HA
        generalize exFault xs[j] (d + 1) = fk at *
        go_wp2_with fail
        refine cI.mono ?_
        rintro e w' ⟨rfl, hb'⟩
        go_wp2_with fail
        exact ⟨⟨j + 1, by omega, by go_num, HN.out, HBL.out.trans (hb'.mono hbs)⟩, by simp [intOf]; omega⟩
      · have hz' : (exFault xs[j] (d + 1) != 0) = true := by simp [hz]
        have HFF := veil (HF.out.trans (firstBad_at (fun t => exFault t (d + 1)) xs j hlt (fun q hq => HA.out q (by omega) hq) hz))
        clear hz HA
        generalize exFault xs[j] (d + 1) = fk at *
        go_wp2_with fail
        refine cI.mono ?_
        rintro e w' ⟨rfl, hb'⟩
        go_wp2_with fail
        go_ret
        exact ⟨by rw [HFF.out]; rfl, HL.out.trans (hb'.mono (by omega))⟩
    · have HFF := veil (HF.out.trans (firstBad_none (fun t => exFault t (d + 1)) xs fun q hq => HA.out q hq (by omega)))
      clear HREST HIH
      go_wp2_with fail
      go_ret
      exact ⟨by rw [HFF.out]; rfl, HL.out⟩

set_option maxHeartbeats 8000000 in
set_option maxRecDepth 100000 in
theorem exprFault_k5 (d : Nat) (hd1 : d < 1000) (hd0 : ¬ 10 < d) (ih : ExprFaultAt (d + 1)) (S : Nat → Prop) (n : Int) (f s : ByteArray) (xs : List Ex) (a : Option Addr) (cap : Nat) (w : World) (_hf : f.size ≤ maxLen) (_hs : s.size ≤ maxLen) (hS : ∀ b, S b → b < w.heap.size)
    (h8 : ¬ 8 < xs.length) (hrest : xs.length = 0 ∨ ∃ b o, a = some ⟨b, o, none⟩ ∧ S b ∧ RowAt (ExAt S w) 5 xs b o) :
    Calls Tryz.prog 216 #[.agg #[.int .i64 5, .int .i64 n, .string f, .string s, .slice a xs.length cap], .int .i64 d] w fun e w' => e = .returned (.int .i64 (exFault (.mk 5 n f s xs) d)) ∧ Below w.heap.size w w' := by
  have HIH := veil ih
  have HREST := veil hrest
  clear ih hrest
  have hd' : ¬ (10 : Int) < (d : Int) := by omega
  have h8' : ¬ (8 : Int) < (xs.length : Int) := by omega
  have HB : Hid (Below w.heap.size w (w.alloc (.cells #[.int .i64 5, .int .i64 n, .string f, .string s, .slice a xs.length cap] 87))) := (Below.refl _ _).alloc (Nat.le_refl _) _
  have HT := veil (exFault_tail (n := n) (f := f) (s := s) hd0 (show isIn 5 1 7 = true from rfl) h8)
  have hin : isIn 5 1 7 = true := rfl
  have HNm : Hid (namesFit 5 f s = ((s.toList == []) && (f.toList == []))) := by show _ = _; rw [noneB_text, noneB_text]; rfl
  have HCt : Hid (countFits 5 xs.length = ((xs.length : Int) == 2)) := (len_eq xs.length 2).symm
  cases hA : (n != 0)
  case true =>
    have HF : Hid (exFault (.mk 5 n f s xs) d = 4) := by show _ = _; rw [HT.out, if_pos (Or.inl ⟨bne_iff_ne.1 hA, by decide⟩)]
    clear HT HNm HCt HIH HREST
    go_enter Tryz.func216, Tryz.ntmps216
    go_wp2_with (first | (go_at_call 138; refine (in_any _ _ _ _).mono ?_; rintro e w' ⟨rfl, rfl⟩) | (go_at_call 211; refine (quoteMay_any _ (by assumption) _).mono ?_; rintro e w' ⟨rfl, rfl⟩) | (go_at_call 88; refine (nameMay_any _ (by assumption) _).mono ?_; rintro e w' ⟨rfl, rfl⟩))
    go_ret
    exact ⟨by rw [HF.out]; rfl, HB.out⟩
  have hn : n = 0 := by
    by_cases h : n = 0
    · exact h
    · rw [bne_iff_ne.2 h] at hA; cases hA
  subst hn
  clear hA
  cases hF : (f.toList == [])
  case false =>
    have HF : Hid (exFault (.mk 5 0 f s xs) d = 4) := by show _ = _; rw [HT.out, if_pos (Or.inr (Or.inl (HNm.out.trans (by rw [hF]; simp))))]
    clear HT HNm HCt HIH HREST
    go_enter Tryz.func216, Tryz.ntmps216
    go_wp2_with (first | (go_at_call 138; refine (in_any _ _ _ _).mono ?_; rintro e w' ⟨rfl, rfl⟩) | (go_at_call 211; refine (quoteMay_any _ (by assumption) _).mono ?_; rintro e w' ⟨rfl, rfl⟩) | (go_at_call 88; refine (nameMay_any _ (by assumption) _).mono ?_; rintro e w' ⟨rfl, rfl⟩))
    go_ret
    exact ⟨by rw [HF.out]; rfl, HB.out⟩
  cases hS0 : (s.toList == [])
  case false =>
    have HF : Hid (exFault (.mk 5 0 f s xs) d = 4) := by show _ = _; rw [HT.out, if_pos (Or.inr (Or.inl (HNm.out.trans (by rw [hS0]; simp))))]
    clear HT HNm HCt HIH HREST
    go_enter Tryz.func216, Tryz.ntmps216
    go_wp2_with (first | (go_at_call 138; refine (in_any _ _ _ _).mono ?_; rintro e w' ⟨rfl, rfl⟩) | (go_at_call 211; refine (quoteMay_any _ (by assumption) _).mono ?_; rintro e w' ⟨rfl, rfl⟩) | (go_at_call 88; refine (nameMay_any _ (by assumption) _).mono ?_; rintro e w' ⟨rfl, rfl⟩))
    go_ret
    exact ⟨by rw [HF.out]; rfl, HB.out⟩
  cases hC : ((xs.length : Int) == 2)
  case false =>
    have HF : Hid (exFault (.mk 5 0 f s xs) d = 4) := by show _ = _; rw [HT.out, if_pos (Or.inr (Or.inr (HCt.out.trans hC)))]
    clear HT HNm HCt HIH HREST
    go_enter Tryz.func216, Tryz.ntmps216
    go_wp2_with (first | (go_at_call 138; refine (in_any _ _ _ _).mono ?_; rintro e w' ⟨rfl, rfl⟩) | (go_at_call 211; refine (quoteMay_any _ (by assumption) _).mono ?_; rintro e w' ⟨rfl, rfl⟩) | (go_at_call 88; refine (nameMay_any _ (by assumption) _).mono ?_; rintro e w' ⟨rfl, rfl⟩))
    go_ret
    exact ⟨by rw [HF.out]; rfl, HB.out⟩
  have HF : Hid (exFault (.mk 5 0 f s xs) d = firstBad (fun t => exFault t (d + 1)) xs) := by
    show _ = _
    rw [HT.out, if_neg, if_neg (by rw [show isIn 0 0 999999 = true from rfl]; simp), exsFault_first]
    rintro (h | h | h)
    · exact h.1 rfl
    · rw [HNm.out, hS0, hF] at h; cases h
    · rw [HCt.out, hC] at h; cases h
  clear HT HNm HCt

  go_enter Tryz.func216, Tryz.ntmps216
  go_wp2_with (first | (go_at_call 138; refine (in_any _ _ _ _).mono ?_; rintro e w' ⟨rfl, rfl⟩) | (go_at_call 211; refine (quoteMay_any _ (by assumption) _).mono ?_; rintro e w' ⟨rfl, rfl⟩) | (go_at_call 88; refine (nameMay_any _ (by assumption) _).mono ?_; rintro e w' ⟨rfl, rfl⟩))
  go_loopw [7] (fun i wr => ∃ j : Nat, j ≤ xs.length ∧ i = .int .i64 j ∧ (∀ q (hq : q < xs.length), q < j → exFault xs[q] (d + 1) = 0) ∧ Below (w.heap.size + 1) (w.alloc (.cells #[.int .i64 5, .int .i64 0, .string f, .string s, .slice a xs.length cap] 87)) wr) (fun i _ => xs.length - (intOf i).toNat)
  case atStart => exact ⟨0, Nat.zero_le _, rfl, fun q _ h => absurd h (by omega), Below.refl _ _⟩
  case round =>
    obtain ⟨j, hj, rfl, hall, hbl⟩ := hrel
    have HA := veil hall
    clear hall
    have hc := fun o => hbl.cell (p := ⟨w.heap.size, o, none⟩) (by show w.heap.size < w.heap.size + 1; omega)
    have hbs : w.heap.size + 1 ≤ wr.heap.size := by have := hbl.size; simpa using this
    have HL := veil (HB.out.trans (hbl.mono (by omega)))
    have HBL := veil hbl
    clear hbl
    by_cases hlt : j < xs.length
    · rcases HREST.out with h0 | ⟨b, off, rfl, hb, hrow⟩
      · omega
      have hbw := hS b hb
      obtain ⟨kd, nu, fo, na, va, c0, c1, c2, c3, c4, hcs⟩ := exAt_cells.1 (hrow.get j hlt)
      obtain ⟨va1, va2, va3, rfl⟩ := hcs.slice
      have d0 := (HL.out.cell (p := ⟨b, off + j * 5, none⟩) hbw).trans c0
      have d1 := (HL.out.cell (p := ⟨b, off + j * 5 + 1, none⟩) hbw).trans c1
      have d2 := (HL.out.cell (p := ⟨b, off + j * 5 + 2, none⟩) hbw).trans c2
      have d3 := (HL.out.cell (p := ⟨b, off + j * 5 + 3, none⟩) hbw).trans c3
      have d4 := (HL.out.cell (p := ⟨b, off + j * 5 + 4, none⟩) hbw).trans c4
      have cI := HIH.out S xs[j] (.agg #[.int .i64 kd, .int .i64 nu, .string fo, .string na, .slice va1 va2 va3]) wr (fun b h => by have := hS b h; omega) ⟨_, _, _, _, _, rfl, hcs.keep (Keeps.below HL.out hS)⟩
      have en : ((d + 1 : Nat) : Int) = (d : Int) + 1 := by omega
      rw [en] at cI
      clear c0 c1 c2 c3 c4 hcs hrow HIH HREST
      by_cases hz : exFault xs[j] (d + 1) = 0
      · have hz' : (exFault xs[j] (d + 1) != 0) = false := by simp [hz]
        have HN : Hid (∀ q (hq : q < xs.length), q < j + 1 → exFault xs[q] (d + 1) = 0) := fun q hq hqj => by
          by_cases e : q = j
          · subst e; exact hz
          · exact HA.out q hq (by omega)
        clear hz HA
        generalize exFault xs[j] (d + 1) = fk at *
        go_wp2_with fail
        refine cI.mono ?_
        rintro e w' ⟨rfl, hb'⟩
        go_wp2_with fail
        exact ⟨⟨j + 1, by omega, by go_num, HN.out, HBL.out.trans (hb'.mono hbs)⟩, by simp [intOf]; omega⟩
      · have hz' : (exFault xs[j] (d + 1) != 0) = true := by simp [hz]
        have HFF := veil (HF.out.trans (firstBad_at (fun t => exFault t (d + 1)) xs j hlt (fun q hq => HA.out q (by omega) hq) hz))
        clear hz HA
        generalize exFault xs[j] (d + 1) = fk at *
        go_wp2_with fail
        refine cI.mono ?_
        rintro e w' ⟨rfl, hb'⟩
        go_wp2_with fail
        go_ret
        exact ⟨by rw [HFF.out]; rfl, HL.out.trans (hb'.mono (by omega))⟩
    · have HFF := veil (HF.out.trans (firstBad_none (fun t => exFault t (d + 1)) xs fun q hq => HA.out q hq (by omega)))
      clear HREST HIH
      go_wp2_with fail
      go_ret
      exact ⟨by rw [HFF.out]; rfl, HL.out⟩

set_option maxHeartbeats 8000000 in
set_option maxRecDepth 100000 in
theorem exprFault_k6 (d : Nat) (hd1 : d < 1000) (hd0 : ¬ 10 < d) (ih : ExprFaultAt (d + 1)) (S : Nat → Prop) (n : Int) (f s : ByteArray) (xs : List Ex) (a : Option Addr) (cap : Nat) (w : World) (_hf : f.size ≤ maxLen) (_hs : s.size ≤ maxLen) (hS : ∀ b, S b → b < w.heap.size)
    (h8 : ¬ 8 < xs.length) (hrest : xs.length = 0 ∨ ∃ b o, a = some ⟨b, o, none⟩ ∧ S b ∧ RowAt (ExAt S w) 5 xs b o) :
    Calls Tryz.prog 216 #[.agg #[.int .i64 6, .int .i64 n, .string f, .string s, .slice a xs.length cap], .int .i64 d] w fun e w' => e = .returned (.int .i64 (exFault (.mk 6 n f s xs) d)) ∧ Below w.heap.size w w' := by
  have HIH := veil ih
  have HREST := veil hrest
  clear ih hrest
  have hd' : ¬ (10 : Int) < (d : Int) := by omega
  have h8' : ¬ (8 : Int) < (xs.length : Int) := by omega
  have HB : Hid (Below w.heap.size w (w.alloc (.cells #[.int .i64 6, .int .i64 n, .string f, .string s, .slice a xs.length cap] 87))) := (Below.refl _ _).alloc (Nat.le_refl _) _
  have HT := veil (exFault_tail (n := n) (f := f) (s := s) hd0 (show isIn 6 1 7 = true from rfl) h8)
  have hin : isIn 6 1 7 = true := rfl
  have HNm : Hid (namesFit 6 f s = ((s.toList == []) && (f.toList == []))) := by show _ = _; rw [noneB_text, noneB_text]; rfl
  have HCt : Hid (countFits 6 xs.length = (decide (0 < xs.length))) := rfl
  cases hA : (n != 0)
  case true =>
    have HF : Hid (exFault (.mk 6 n f s xs) d = 4) := by show _ = _; rw [HT.out, if_pos (Or.inl ⟨bne_iff_ne.1 hA, by decide⟩)]
    clear HT HNm HCt HIH HREST
    go_enter Tryz.func216, Tryz.ntmps216
    go_wp2_with (first | (go_at_call 138; refine (in_any _ _ _ _).mono ?_; rintro e w' ⟨rfl, rfl⟩) | (go_at_call 211; refine (quoteMay_any _ (by assumption) _).mono ?_; rintro e w' ⟨rfl, rfl⟩) | (go_at_call 88; refine (nameMay_any _ (by assumption) _).mono ?_; rintro e w' ⟨rfl, rfl⟩))
    go_ret
    exact ⟨by rw [HF.out]; rfl, HB.out⟩
  have hn : n = 0 := by
    by_cases h : n = 0
    · exact h
    · rw [bne_iff_ne.2 h] at hA; cases hA
  subst hn
  clear hA
  cases hF : (f.toList == [])
  case false =>
    have HF : Hid (exFault (.mk 6 0 f s xs) d = 4) := by show _ = _; rw [HT.out, if_pos (Or.inr (Or.inl (HNm.out.trans (by rw [hF]; simp))))]
    clear HT HNm HCt HIH HREST
    go_enter Tryz.func216, Tryz.ntmps216
    go_wp2_with (first | (go_at_call 138; refine (in_any _ _ _ _).mono ?_; rintro e w' ⟨rfl, rfl⟩) | (go_at_call 211; refine (quoteMay_any _ (by assumption) _).mono ?_; rintro e w' ⟨rfl, rfl⟩) | (go_at_call 88; refine (nameMay_any _ (by assumption) _).mono ?_; rintro e w' ⟨rfl, rfl⟩))
    go_ret
    exact ⟨by rw [HF.out]; rfl, HB.out⟩
  cases hS0 : (s.toList == [])
  case false =>
    have HF : Hid (exFault (.mk 6 0 f s xs) d = 4) := by show _ = _; rw [HT.out, if_pos (Or.inr (Or.inl (HNm.out.trans (by rw [hS0]; simp))))]
    clear HT HNm HCt HIH HREST
    go_enter Tryz.func216, Tryz.ntmps216
    go_wp2_with (first | (go_at_call 138; refine (in_any _ _ _ _).mono ?_; rintro e w' ⟨rfl, rfl⟩) | (go_at_call 211; refine (quoteMay_any _ (by assumption) _).mono ?_; rintro e w' ⟨rfl, rfl⟩) | (go_at_call 88; refine (nameMay_any _ (by assumption) _).mono ?_; rintro e w' ⟨rfl, rfl⟩))
    go_ret
    exact ⟨by rw [HF.out]; rfl, HB.out⟩
  by_cases hC : 0 < xs.length
  case neg =>
    have hC' : decide ((1 : Int) ≤ (xs.length : Int)) = false := decide_eq_false (by omega)
    have HF : Hid (exFault (.mk 6 0 f s xs) d = 4) := by show _ = _; rw [HT.out, if_pos (Or.inr (Or.inr (HCt.out.trans (decide_eq_false hC))))]
    clear HT HNm HCt HIH HREST hC
    go_enter Tryz.func216, Tryz.ntmps216
    go_wp2_with (first | (go_at_call 138; refine (in_any _ _ _ _).mono ?_; rintro e w' ⟨rfl, rfl⟩) | (go_at_call 211; refine (quoteMay_any _ (by assumption) _).mono ?_; rintro e w' ⟨rfl, rfl⟩) | (go_at_call 88; refine (nameMay_any _ (by assumption) _).mono ?_; rintro e w' ⟨rfl, rfl⟩))
    go_ret
    exact ⟨by rw [HF.out]; rfl, HB.out⟩
  have hC' : (1 : Int) ≤ (xs.length : Int) := by omega
  have HF : Hid (exFault (.mk 6 0 f s xs) d = firstBad (fun t => exFault t (d + 1)) xs) := by
    show _ = _
    rw [HT.out, if_neg, if_neg (by rw [show isIn 0 0 999999 = true from rfl]; simp), exsFault_first]
    rintro (h | h | h)
    · exact h.1 rfl
    · rw [HNm.out, hS0, hF] at h; cases h
    · rw [HCt.out, decide_eq_true hC] at h; cases h
  clear HT HNm HCt

  go_enter Tryz.func216, Tryz.ntmps216
  go_wp2_with (first | (go_at_call 138; refine (in_any _ _ _ _).mono ?_; rintro e w' ⟨rfl, rfl⟩) | (go_at_call 211; refine (quoteMay_any _ (by assumption) _).mono ?_; rintro e w' ⟨rfl, rfl⟩) | (go_at_call 88; refine (nameMay_any _ (by assumption) _).mono ?_; rintro e w' ⟨rfl, rfl⟩))
  go_loopw [7] (fun i wr => ∃ j : Nat, j ≤ xs.length ∧ i = .int .i64 j ∧ (∀ q (hq : q < xs.length), q < j → exFault xs[q] (d + 1) = 0) ∧ Below (w.heap.size + 1) (w.alloc (.cells #[.int .i64 6, .int .i64 0, .string f, .string s, .slice a xs.length cap] 87)) wr) (fun i _ => xs.length - (intOf i).toNat)
  case atStart => exact ⟨0, Nat.zero_le _, rfl, fun q _ h => absurd h (by omega), Below.refl _ _⟩
  case round =>
    obtain ⟨j, hj, rfl, hall, hbl⟩ := hrel
    have HA := veil hall
    clear hall
    have hc := fun o => hbl.cell (p := ⟨w.heap.size, o, none⟩) (by show w.heap.size < w.heap.size + 1; omega)
    have hbs : w.heap.size + 1 ≤ wr.heap.size := by have := hbl.size; simpa using this
    have HL := veil (HB.out.trans (hbl.mono (by omega)))
    have HBL := veil hbl
    clear hbl
    by_cases hlt : j < xs.length
    · rcases HREST.out with h0 | ⟨b, off, rfl, hb, hrow⟩
      · omega
      have hbw := hS b hb
      obtain ⟨kd, nu, fo, na, va, c0, c1, c2, c3, c4, hcs⟩ := exAt_cells.1 (hrow.get j hlt)
      obtain ⟨va1, va2, va3, rfl⟩ := hcs.slice
      have d0 := (HL.out.cell (p := ⟨b, off + j * 5, none⟩) hbw).trans c0
      have d1 := (HL.out.cell (p := ⟨b, off + j * 5 + 1, none⟩) hbw).trans c1
      have d2 := (HL.out.cell (p := ⟨b, off + j * 5 + 2, none⟩) hbw).trans c2
      have d3 := (HL.out.cell (p := ⟨b, off + j * 5 + 3, none⟩) hbw).trans c3
      have d4 := (HL.out.cell (p := ⟨b, off + j * 5 + 4, none⟩) hbw).trans c4
      have cI := HIH.out S xs[j] (.agg #[.int .i64 kd, .int .i64 nu, .string fo, .string na, .slice va1 va2 va3]) wr (fun b h => by have := hS b h; omega) ⟨_, _, _, _, _, rfl, hcs.keep (Keeps.below HL.out hS)⟩
      have en : ((d + 1 : Nat) : Int) = (d : Int) + 1 := by omega
      rw [en] at cI
      clear c0 c1 c2 c3 c4 hcs hrow HIH HREST
      by_cases hz : exFault xs[j] (d + 1) = 0
      · have hz' : (exFault xs[j] (d + 1) != 0) = false := by simp [hz]
        have HN : Hid (∀ q (hq : q < xs.length), q < j + 1 → exFault xs[q] (d + 1) = 0) := fun q hq hqj => by
          by_cases e : q = j
          · subst e; exact hz
          · exact HA.out q hq (by omega)
        clear hz HA
        generalize exFault xs[j] (d + 1) = fk at *
        go_wp2_with fail
        refine cI.mono ?_
        rintro e w' ⟨rfl, hb'⟩
        go_wp2_with fail
        exact ⟨⟨j + 1, by omega, by go_num, HN.out, HBL.out.trans (hb'.mono hbs)⟩, by simp [intOf]; omega⟩
      · have hz' : (exFault xs[j] (d + 1) != 0) = true := by simp [hz]
        have HFF := veil (HF.out.trans (firstBad_at (fun t => exFault t (d + 1)) xs j hlt (fun q hq => HA.out q (by omega) hq) hz))
        clear hz HA
        generalize exFault xs[j] (d + 1) = fk at *
        go_wp2_with fail
        refine cI.mono ?_
        rintro e w' ⟨rfl, hb'⟩
        go_wp2_with fail
        go_ret
        exact ⟨by rw [HFF.out]; rfl, HL.out.trans (hb'.mono (by omega))⟩
    · have HFF := veil (HF.out.trans (firstBad_none (fun t => exFault t (d + 1)) xs fun q hq => HA.out q hq (by omega)))
      clear HREST HIH
      go_wp2_with fail
      go_ret
      exact ⟨by rw [HFF.out]; rfl, HL.out⟩

set_option maxHeartbeats 8000000 in
set_option maxRecDepth 100000 in
theorem exprFault_k7 (d : Nat) (hd1 : d < 1000) (hd0 : ¬ 10 < d) (ih : ExprFaultAt (d + 1)) (S : Nat → Prop) (n : Int) (f s : ByteArray) (xs : List Ex) (a : Option Addr) (cap : Nat) (w : World) (_hf : f.size ≤ maxLen) (_hs : s.size ≤ maxLen) (hS : ∀ b, S b → b < w.heap.size)
    (h8 : ¬ 8 < xs.length) (hrest : xs.length = 0 ∨ ∃ b o, a = some ⟨b, o, none⟩ ∧ S b ∧ RowAt (ExAt S w) 5 xs b o) :
    Calls Tryz.prog 216 #[.agg #[.int .i64 7, .int .i64 n, .string f, .string s, .slice a xs.length cap], .int .i64 d] w fun e w' => e = .returned (.int .i64 (exFault (.mk 7 n f s xs) d)) ∧ Below w.heap.size w w' := by
  have HIH := veil ih
  have HREST := veil hrest
  clear ih hrest
  have hd' : ¬ (10 : Int) < (d : Int) := by omega
  have h8' : ¬ (8 : Int) < (xs.length : Int) := by omega
  have HB : Hid (Below w.heap.size w (w.alloc (.cells #[.int .i64 7, .int .i64 n, .string f, .string s, .slice a xs.length cap] 87))) := (Below.refl _ _).alloc (Nat.le_refl _) _
  have HT := veil (exFault_tail (n := n) (f := f) (s := s) hd0 (show isIn 7 1 7 = true from rfl) h8)
  have hin : isIn 7 1 7 = true := rfl
  have HNm : Hid (namesFit 7 f s = ((s.toList == []) && (f.toList == []))) := by show _ = _; rw [noneB_text, noneB_text]; rfl
  have HCt : Hid (countFits 7 xs.length = ((xs.length : Int) == 2)) := (len_eq xs.length 2).symm
  cases hA : (n != 0)
  case true =>
    have HF : Hid (exFault (.mk 7 n f s xs) d = 4) := by show _ = _; rw [HT.out, if_pos (Or.inl ⟨bne_iff_ne.1 hA, by decide⟩)]
    clear HT HNm HCt HIH HREST
    go_enter Tryz.func216, Tryz.ntmps216
    go_wp2_with (first | (go_at_call 138; refine (in_any _ _ _ _).mono ?_; rintro e w' ⟨rfl, rfl⟩) | (go_at_call 211; refine (quoteMay_any _ (by assumption) _).mono ?_; rintro e w' ⟨rfl, rfl⟩) | (go_at_call 88; refine (nameMay_any _ (by assumption) _).mono ?_; rintro e w' ⟨rfl, rfl⟩))
    go_ret
    exact ⟨by rw [HF.out]; rfl, HB.out⟩
  have hn : n = 0 := by
    by_cases h : n = 0
    · exact h
    · rw [bne_iff_ne.2 h] at hA; cases hA
  subst hn
  clear hA
  cases hF : (f.toList == [])
  case false =>
    have HF : Hid (exFault (.mk 7 0 f s xs) d = 4) := by show _ = _; rw [HT.out, if_pos (Or.inr (Or.inl (HNm.out.trans (by rw [hF]; simp))))]
    clear HT HNm HCt HIH HREST
    go_enter Tryz.func216, Tryz.ntmps216
    go_wp2_with (first | (go_at_call 138; refine (in_any _ _ _ _).mono ?_; rintro e w' ⟨rfl, rfl⟩) | (go_at_call 211; refine (quoteMay_any _ (by assumption) _).mono ?_; rintro e w' ⟨rfl, rfl⟩) | (go_at_call 88; refine (nameMay_any _ (by assumption) _).mono ?_; rintro e w' ⟨rfl, rfl⟩))
    go_ret
    exact ⟨by rw [HF.out]; rfl, HB.out⟩
  cases hS0 : (s.toList == [])
  case false =>
    have HF : Hid (exFault (.mk 7 0 f s xs) d = 4) := by show _ = _; rw [HT.out, if_pos (Or.inr (Or.inl (HNm.out.trans (by rw [hS0]; simp))))]
    clear HT HNm HCt HIH HREST
    go_enter Tryz.func216, Tryz.ntmps216
    go_wp2_with (first | (go_at_call 138; refine (in_any _ _ _ _).mono ?_; rintro e w' ⟨rfl, rfl⟩) | (go_at_call 211; refine (quoteMay_any _ (by assumption) _).mono ?_; rintro e w' ⟨rfl, rfl⟩) | (go_at_call 88; refine (nameMay_any _ (by assumption) _).mono ?_; rintro e w' ⟨rfl, rfl⟩))
    go_ret
    exact ⟨by rw [HF.out]; rfl, HB.out⟩
  cases hC : ((xs.length : Int) == 2)
  case false =>
    have HF : Hid (exFault (.mk 7 0 f s xs) d = 4) := by show _ = _; rw [HT.out, if_pos (Or.inr (Or.inr (HCt.out.trans hC)))]
    clear HT HNm HCt HIH HREST
    go_enter Tryz.func216, Tryz.ntmps216
    go_wp2_with (first | (go_at_call 138; refine (in_any _ _ _ _).mono ?_; rintro e w' ⟨rfl, rfl⟩) | (go_at_call 211; refine (quoteMay_any _ (by assumption) _).mono ?_; rintro e w' ⟨rfl, rfl⟩) | (go_at_call 88; refine (nameMay_any _ (by assumption) _).mono ?_; rintro e w' ⟨rfl, rfl⟩))
    go_ret
    exact ⟨by rw [HF.out]; rfl, HB.out⟩
  have HF : Hid (exFault (.mk 7 0 f s xs) d = firstBad (fun t => exFault t (d + 1)) xs) := by
    show _ = _
    rw [HT.out, if_neg, if_neg (by rw [show isIn 0 0 999999 = true from rfl]; simp), exsFault_first]
    rintro (h | h | h)
    · exact h.1 rfl
    · rw [HNm.out, hS0, hF] at h; cases h
    · rw [HCt.out, hC] at h; cases h
  clear HT HNm HCt

  go_enter Tryz.func216, Tryz.ntmps216
  go_wp2_with (first | (go_at_call 138; refine (in_any _ _ _ _).mono ?_; rintro e w' ⟨rfl, rfl⟩) | (go_at_call 211; refine (quoteMay_any _ (by assumption) _).mono ?_; rintro e w' ⟨rfl, rfl⟩) | (go_at_call 88; refine (nameMay_any _ (by assumption) _).mono ?_; rintro e w' ⟨rfl, rfl⟩))
  go_loopw [7] (fun i wr => ∃ j : Nat, j ≤ xs.length ∧ i = .int .i64 j ∧ (∀ q (hq : q < xs.length), q < j → exFault xs[q] (d + 1) = 0) ∧ Below (w.heap.size + 1) (w.alloc (.cells #[.int .i64 7, .int .i64 0, .string f, .string s, .slice a xs.length cap] 87)) wr) (fun i _ => xs.length - (intOf i).toNat)
  case atStart => exact ⟨0, Nat.zero_le _, rfl, fun q _ h => absurd h (by omega), Below.refl _ _⟩
  case round =>
    obtain ⟨j, hj, rfl, hall, hbl⟩ := hrel
    have HA := veil hall
    clear hall
    have hc := fun o => hbl.cell (p := ⟨w.heap.size, o, none⟩) (by show w.heap.size < w.heap.size + 1; omega)
    have hbs : w.heap.size + 1 ≤ wr.heap.size := by have := hbl.size; simpa using this
    have HL := veil (HB.out.trans (hbl.mono (by omega)))
    have HBL := veil hbl
    clear hbl
    by_cases hlt : j < xs.length
    · rcases HREST.out with h0 | ⟨b, off, rfl, hb, hrow⟩
      · omega
      have hbw := hS b hb
      obtain ⟨kd, nu, fo, na, va, c0, c1, c2, c3, c4, hcs⟩ := exAt_cells.1 (hrow.get j hlt)
      obtain ⟨va1, va2, va3, rfl⟩ := hcs.slice
      have d0 := (HL.out.cell (p := ⟨b, off + j * 5, none⟩) hbw).trans c0
      have d1 := (HL.out.cell (p := ⟨b, off + j * 5 + 1, none⟩) hbw).trans c1
      have d2 := (HL.out.cell (p := ⟨b, off + j * 5 + 2, none⟩) hbw).trans c2
      have d3 := (HL.out.cell (p := ⟨b, off + j * 5 + 3, none⟩) hbw).trans c3
      have d4 := (HL.out.cell (p := ⟨b, off + j * 5 + 4, none⟩) hbw).trans c4
      have cI := HIH.out S xs[j] (.agg #[.int .i64 kd, .int .i64 nu, .string fo, .string na, .slice va1 va2 va3]) wr (fun b h => by have := hS b h; omega) ⟨_, _, _, _, _, rfl, hcs.keep (Keeps.below HL.out hS)⟩
      have en : ((d + 1 : Nat) : Int) = (d : Int) + 1 := by omega
      rw [en] at cI
      clear c0 c1 c2 c3 c4 hcs hrow HIH HREST
      by_cases hz : exFault xs[j] (d + 1) = 0
      · have hz' : (exFault xs[j] (d + 1) != 0) = false := by simp [hz]
        have HN : Hid (∀ q (hq : q < xs.length), q < j + 1 → exFault xs[q] (d + 1) = 0) := fun q hq hqj => by
          by_cases e : q = j
          · subst e; exact hz
          · exact HA.out q hq (by omega)
        clear hz HA
        generalize exFault xs[j] (d + 1) = fk at *
        go_wp2_with fail
        refine cI.mono ?_
        rintro e w' ⟨rfl, hb'⟩
        go_wp2_with fail
        exact ⟨⟨j + 1, by omega, by go_num, HN.out, HBL.out.trans (hb'.mono hbs)⟩, by simp [intOf]; omega⟩
      · have hz' : (exFault xs[j] (d + 1) != 0) = true := by simp [hz]
        have HFF := veil (HF.out.trans (firstBad_at (fun t => exFault t (d + 1)) xs j hlt (fun q hq => HA.out q (by omega) hq) hz))
        clear hz HA
        generalize exFault xs[j] (d + 1) = fk at *
        go_wp2_with fail
        refine cI.mono ?_
        rintro e w' ⟨rfl, hb'⟩
        go_wp2_with fail
        go_ret
        exact ⟨by rw [HFF.out]; rfl, HL.out.trans (hb'.mono (by omega))⟩
    · have HFF := veil (HF.out.trans (firstBad_none (fun t => exFault t (d + 1)) xs fun q hq => HA.out q hq (by omega)))
      clear HREST HIH
      go_wp2_with fail
      go_ret
      exact ⟨by rw [HFF.out]; rfl, HL.out⟩

theorem exprFault_any : ∀ (m d : Nat), 10 < d + m → d < 1000 → ExprFaultAt d := by
  intro m
  induction m with
  | zero =>
    rintro d hd hd1 S t v w hS ⟨k, n, f, s, va, rfl, xs, rfl, hf, hs, hsl⟩
    have hd' : (10 : Int) < (d : Int) := by omega
    have HF : Hid (exFault (.mk k n f s xs) d = 1) := by show _ = _; rw [exFault, if_pos (by omega)]
    obtain ⟨a, c, cap, rfl⟩ := hsl.slice
    clear hsl
    go_enter Tryz.func216, Tryz.ntmps216
    go_wp2_with fail
    go_ret
    exact ⟨by rw [HF.out]; rfl, (Below.refl _ _).alloc (Nat.le_refl _) _⟩
  | succ m ih =>
    rintro d hd hd1 S t v w hS ⟨k, n, f, s, va, rfl, xs, rfl, hf, hs, hsl⟩
    have HIH := veil ih
    clear ih
    by_cases hd0 : 10 < d
    · have hd' : (10 : Int) < (d : Int) := by omega
      have HF : Hid (exFault (.mk k n f s xs) d = 1) := by show _ = _; rw [exFault, if_pos (by omega)]
      obtain ⟨a, c, cap, rfl⟩ := hsl.slice
      clear hsl
      go_enter Tryz.func216, Tryz.ntmps216
      go_wp2_with fail
      go_ret
      exact ⟨by rw [HF.out]; rfl, (Below.refl _ _).alloc (Nat.le_refl _) _⟩
    have hd' : ¬ (10 : Int) < (d : Int) := by omega
    obtain ⟨a, cap, rfl, ⟨hlen, hlenC⟩, hrest⟩ := hsl
    have hlen' := hlen
    unfold maxLen at hlen
    cases hk : isIn k 1 7
    · have HF : Hid (exFault (.mk k n f s xs) d = 3) := by show _ = _; rw [exFault, if_neg hd0, if_pos hk]
      clear hrest HIH
      go_enter Tryz.func216, Tryz.ntmps216
      go_wp2_with (go_at_call 138; refine (in_any _ _ _ _).mono ?_; rintro e w' ⟨rfl, rfl⟩)
      go_ret
      exact ⟨by rw [HF.out]; rfl, (Below.refl _ _).alloc (Nat.le_refl _) _⟩
    by_cases h8 : 8 < xs.length
    · have HF : Hid (exFault (.mk k n f s xs) d = 1) := by show _ = _; rw [exFault, if_neg hd0, if_neg (by rw [hk]; simp), if_pos h8]
      have h8' : (8 : Int) < (xs.length : Int) := by omega
      clear hrest HIH
      go_enter Tryz.func216, Tryz.ntmps216
      go_wp2_with (go_at_call 138; refine (in_any _ _ _ _).mono ?_; rintro e w' ⟨rfl, rfl⟩)
      go_ret
      exact ⟨by rw [HF.out]; rfl, (Below.refl _ _).alloc (Nat.le_refl _) _⟩
    have hI := HIH.out (d + 1) (by omega) (by omega)
    have hk7 : k = 1 ∨ k = 2 ∨ k = 3 ∨ k = 4 ∨ k = 5 ∨ k = 6 ∨ k = 7 := by simp [isIn] at hk; omega
    rcases hk7 with rfl | rfl | rfl | rfl | rfl | rfl | rfl
    · exact exprFault_k1 d hd1 hd0 hI S n f s xs a cap w hf hs hS h8 hrest
    · exact exprFault_k2 d hd1 hd0 hI S n f s xs a cap w hf hs hS h8 hrest
    · exact exprFault_k3 d hd1 hd0 hI S n f s xs a cap w hf hs hS h8 hrest
    · exact exprFault_k4 d hd1 hd0 hI S n f s xs a cap w hf hs hS h8 hrest
    · exact exprFault_k5 d hd1 hd0 hI S n f s xs a cap w hf hs hS h8 hrest
    · exact exprFault_k6 d hd1 hd0 hI S n f s xs a cap w hf hs hS h8 hrest
    · exact exprFault_k7 d hd1 hd0 hI S n f s xs a cap w hf hs hS h8 hrest

end Go.Proofs.YtagbaimfigljiaaGreatDoor
