/- What the reference's exprFault answers, at every expression and at every depth: the first fault. -/
import Derived.Test.YtcpnfkeoajeodaaGreatDoorJC
namespace Go.Proofs.YtcpnfkeoajeodaaGreatDoor
open Go.RowKit
set_option maxRecDepth 100000

/-- what is asked of the args, one by one. -/
def ExprFaultAt (d : Nat) : Prop := ∀ (S : Nat → Prop) (t : Ex) (v : Value) (w : World), (∀ b, S b → b < w.heap.size) → ExIs S w t v →
    Calls Tryz.prog 44 #[v, .int .i64 d] w fun e w' => e = .returned (.int .i64 (exFault t d)) ∧ Below w.heap.size w w'

theorem exFault_tail {k n : Int} {f s : ByteArray} {xs : List Ex} {d : Nat} (hd : ¬ 10 < d) (hk : isIn k 1 7 = true) (h8 : ¬ 8 < xs.length) :
    exFault (.mk k n f s xs) d = if (n ≠ 0 ∧ k ≠ 1) ∨ namesFit k f s = false ∨ countFits k xs.length = false then 4 else if isIn n 0 999999 = false then 2 else exsFault xs (d + 1) := by
  rw [exFault, if_neg hd, if_neg (by rw [hk]; simp), if_neg h8]

set_option maxHeartbeats 8000000 in
set_option maxRecDepth 100000 in
theorem exprFault_k1 (d : Nat) (hd1 : d < 1000) (hd0 : ¬ 10 < d) (ih : ExprFaultAt (d + 1)) (S : Nat → Prop) (n : Int) (f s : ByteArray) (xs : List Ex) (a : Option Addr) (cap : Nat) (w : World) (_hf : f.size ≤ maxLen) (_hs : s.size ≤ maxLen) (hS : ∀ b, S b → b < w.heap.size)
    (h8 : ¬ 8 < xs.length) (hrest : xs.length = 0 ∨ ∃ b o, a = some ⟨b, o, none⟩ ∧ S b ∧ RowAt (ExAt S w) 5 xs b o) :
    Calls Tryz.prog 44 #[.agg #[.int .i64 1, .int .i64 n, .string f, .string s, .slice a xs.length cap], .int .i64 d] w fun e w' => e = .returned (.int .i64 (exFault (.mk 1 n f s xs) d)) ∧ Below w.heap.size w w' := by
  have HIH := veil ih
  have HREST := veil hrest
  clear ih hrest
  have hd' : ¬ (10 : Int) < (d : Int) := by omega
  have h8' : ¬ (8 : Int) < (xs.length : Int) := by omega
  have HB : Hid (Below w.heap.size w (w.alloc (.cells #[.int .i64 1, .int .i64 n, .string f, .string s, .slice a xs.length cap] 52))) := (Below.refl _ _).alloc (Nat.le_refl _) _
  have HT := veil (exFault_tail (n := n) (f := f) (s := s) hd0 (show isIn 1 1 7 = true from rfl) h8)
  have hin : isIn 1 1 7 = true := rfl
  have HNm : Hid (namesFit 1 f s = ((s.toList == []) && (f.toList == []))) := by show _ = _; rw [noneB_text, noneB_text]; rfl
  have HCt : Hid (countFits 1 xs.length = ((xs.length : Int) == 0)) := (len_eq xs.length 0).symm
  cases hF : (f.toList == [])
  case false =>
    have HF : Hid (exFault (.mk 1 n f s xs) d = 4) := by show _ = _; rw [HT.out, if_pos (Or.inr (Or.inl (HNm.out.trans (by rw [hF]; simp))))]
    clear HT HNm HCt HIH HREST
    go_enter Tryz.func44, Tryz.ntmps44
    go_wp2_with (first | (go_at_call 43; refine (in_any _ _ _ _).mono ?_; rintro e w' ⟨rfl, rfl⟩) | (go_at_call 65; refine (quoteMay_any _ (by assumption) _).mono ?_; rintro e w' ⟨rfl, rfl⟩) | (go_at_call 10; refine (nameMay_any _ (by assumption) _).mono ?_; rintro e w' ⟨rfl, rfl⟩))
    go_ret
    exact ⟨by rw [HF.out]; rfl, HB.out⟩
  cases hS0 : (s.toList == [])
  case false =>
    have HF : Hid (exFault (.mk 1 n f s xs) d = 4) := by show _ = _; rw [HT.out, if_pos (Or.inr (Or.inl (HNm.out.trans (by rw [hS0]; simp))))]
    clear HT HNm HCt HIH HREST
    go_enter Tryz.func44, Tryz.ntmps44
    go_wp2_with (first | (go_at_call 43; refine (in_any _ _ _ _).mono ?_; rintro e w' ⟨rfl, rfl⟩) | (go_at_call 65; refine (quoteMay_any _ (by assumption) _).mono ?_; rintro e w' ⟨rfl, rfl⟩) | (go_at_call 10; refine (nameMay_any _ (by assumption) _).mono ?_; rintro e w' ⟨rfl, rfl⟩))
    go_ret
    exact ⟨by rw [HF.out]; rfl, HB.out⟩
  cases hC : ((xs.length : Int) == 0)
  case false =>
    have HF : Hid (exFault (.mk 1 n f s xs) d = 4) := by show _ = _; rw [HT.out, if_pos (Or.inr (Or.inr (HCt.out.trans hC)))]
    clear HT HNm HCt HIH HREST
    go_enter Tryz.func44, Tryz.ntmps44
    go_wp2_with (first | (go_at_call 43; refine (in_any _ _ _ _).mono ?_; rintro e w' ⟨rfl, rfl⟩) | (go_at_call 65; refine (quoteMay_any _ (by assumption) _).mono ?_; rintro e w' ⟨rfl, rfl⟩) | (go_at_call 10; refine (nameMay_any _ (by assumption) _).mono ?_; rintro e w' ⟨rfl, rfl⟩))
    go_ret
    exact ⟨by rw [HF.out]; rfl, HB.out⟩
  cases hR : isIn n 0 999999
  case false =>
    have HF : Hid (exFault (.mk 1 n f s xs) d = 2) := by
      show _ = _
      rw [HT.out, if_neg, if_pos hR]
      rintro (h | h | h)
      · exact h.2 rfl
      · rw [HNm.out, hS0, hF] at h; cases h
      · rw [HCt.out, hC] at h; cases h
    clear HT HNm HCt HIH HREST
    go_enter Tryz.func44, Tryz.ntmps44
    go_wp2_with (first | (go_at_call 43; refine (in_any _ _ _ _).mono ?_; rintro e w' ⟨rfl, rfl⟩) | (go_at_call 65; refine (quoteMay_any _ (by assumption) _).mono ?_; rintro e w' ⟨rfl, rfl⟩) | (go_at_call 10; refine (nameMay_any _ (by assumption) _).mono ?_; rintro e w' ⟨rfl, rfl⟩))
    go_ret
    exact ⟨by rw [HF.out]; rfl, HB.out⟩
  have HF : Hid (exFault (.mk 1 n f s xs) d = firstBad (fun t => exFault t (d + 1)) xs) := by
    show _ = _
    rw [HT.out, if_neg, if_neg (by rw [hR]; simp), exsFault_first]
    rintro (h | h | h)
    · exact h.2 rfl
    · rw [HNm.out, hS0, hF] at h; cases h
    · rw [HCt.out, hC] at h; cases h
  clear HT HNm HCt

  go_enter Tryz.func44, Tryz.ntmps44
  go_wp2_with (first | (go_at_call 43; refine (in_any _ _ _ _).mono ?_; rintro e w' ⟨rfl, rfl⟩) | (go_at_call 65; refine (quoteMay_any _ (by assumption) _).mono ?_; rintro e w' ⟨rfl, rfl⟩) | (go_at_call 10; refine (nameMay_any _ (by assumption) _).mono ?_; rintro e w' ⟨rfl, rfl⟩))
  go_loopw [7] (fun i wr => ∃ j : Nat, j ≤ xs.length ∧ i = .int .i64 j ∧ (∀ q (hq : q < xs.length), q < j → exFault xs[q] (d + 1) = 0) ∧ Below (w.heap.size + 1) (w.alloc (.cells #[.int .i64 1, .int .i64 n, .string f, .string s, .slice a xs.length cap] 52)) wr) (fun i _ => xs.length - (intOf i).toNat)
  case atStart => exact ⟨0, Nat.zero_le _, rfl, fun q _ h => absurd h (by omega), Below.refl _ _⟩
  case round =>
    obtain ⟨j, hj, rfl, hall, hbl⟩ := hrel
    have HA := veil hall
    clear hall
    have hc := fun o => hbl.cell (p := ⟨w.heap.size, o, none⟩) (by show w.heap.size < w.heap.size + 1; omega)
    have hbs : w.heap.size + 1 ≤ wr.heap.size := by have := hbl.size; simpa using this
    have HL := veil (HB.out.trans (hbl.mono (by omega)))
    have HBL := veil hbl
    clear hbl
    by_cases hlt : j < xs.length
    · rcases HREST.out with h0 | ⟨b, off, rfl, hb, hrow⟩
      · omega
      have hbw := hS b hb
      obtain ⟨kd, nu, fo, na, va, c0, c1, c2, c3, c4, hcs⟩ := exAt_cells.1 (hrow.get j hlt)
      obtain ⟨va1, va2, va3, rfl⟩ := hcs.slice
      have d0 := (HL.out.cell (p := ⟨b, off + j * 5, none⟩) hbw).trans c0
      have d1 := (HL.out.cell (p := ⟨b, off + j * 5 + 1, none⟩) hbw).trans c1
      have d2 := (HL.out.cell (p := ⟨b, off + j * 5 + 2, none⟩) hbw).trans c2
      have d3 := (HL.out.cell (p := ⟨b, off + j * 5 + 3, none⟩) hbw).trans c3
      have d4 := (HL.out.cell (p := ⟨b, off + j * 5 + 4, none⟩) hbw).trans c4
      have cI := HIH.out S xs[j] (.agg #[.int .i64 kd, .int .i64 nu, .string fo, .string na, .slice va1 va2 va3]) wr (fun b h => by have := hS b h; omega) ⟨_, _, _, _, _, rfl, hcs.keep (Keeps.below HL.out hS)⟩
      have en : ((d + 1 : Nat) : Int) = (d : Int) + 1 := by omega
      rw [en] at cI
      clear c0 c1 c2 c3 c4 hcs hrow HIH HREST
      by_cases hz : exFault xs[j] (d + 1) = 0
      · have hz' : (exFault xs[j] (d + 1) != 0) = false := by simp [hz]
        have HN : Hid (∀ q (hq : q < xs.length), q < j + 1 → exFault xs[q] (d + 1) = 0) := fun q hq hqj => by
          by_cases e : q = j
          · subst e; exact hz
          · exact HA.out q hq (by omega)
        clear hz HA
        generalize exFault xs[j] (d + 1) = fk at *
        go_wp2_with fail
        refine cI.mono ?_
        rintro e w' ⟨rfl, hb'⟩
        go_wp2_with fail
        exact ⟨⟨j + 1, by omega, by go_num, HN.out, HBL.out.trans (hb'.mono hbs)⟩, by simp [intOf]; omega⟩
      · have hz' : (exFault xs[j] (d + 1) != 0) = true := by simp [hz]
        have HFF := veil (HF.out.trans (firstBad_at (fun t => exFault t (d + 1)) xs j hlt (fun q hq => HA.out q (by omega) hq) hz))
        clear hz HA
        generalize exFault xs[j] (d + 1) = fk at *
        go_wp2_with fail
        refine cI.mono ?_
        rintro e w' ⟨rfl, hb'⟩
        go_wp2_with fail
        go_ret
        exact ⟨by rw [HFF.out]; rfl, HL.out.trans (hb'.mono (by omega))⟩
    · have HFF := veil (HF.out.trans (firstBad_none (fun t => exFault t (d + 1)) xs fun q hq => HA.out q hq (by omega)))
      clear HREST HIH
      go_wp2_with fail
      go_ret
      exact ⟨by rw [HFF.out]; rfl, HL.out⟩

set_option maxHeartbeats 8000000 in
set_option maxRecDepth 100000 in
theorem exprFault_k2 (d : Nat) (hd1 : d < 1000) (hd0 : ¬ 10 < d) (ih : ExprFaultAt (d + 1)) (S : Nat → Prop) (n : Int) (f s : ByteArray) (xs : List Ex) (a : Option Addr) (cap : Nat) (w : World) (_hf : f.size ≤ maxLen) (hs : s.size ≤ maxLen) (hS : ∀ b, S b → b < w.heap.size)
    (h8 : ¬ 8 < xs.length) (hrest : xs.length = 0 ∨ ∃ b o, a = some ⟨b, o, none⟩ ∧ S b ∧ RowAt (ExAt S w) 5 xs b o) :
    Calls Tryz.prog 44 #[.agg #[.int .i64 2, .int .i64 n, .string f, .string s, .slice a xs.length cap], .int .i64 d] w fun e w' => e = .returned (.int .i64 (exFault (.mk 2 n f s xs) d)) ∧ Below w.heap.size w w' := by
  have HIH := veil ih
  have HREST := veil hrest
  clear ih hrest
  have hd' : ¬ (10 : Int) < (d : Int) := by omega
  have h8' : ¬ (8 : Int) < (xs.length : Int) := by omega
  have HB : Hid (Below w.heap.size w (w.alloc (.cells #[.int .i64 2, .int .i64 n, .string f, .string s, .slice a xs.length cap] 52))) := (Below.refl _ _).alloc (Nat.le_refl _) _
  have HT := veil (exFault_tail (n := n) (f := f) (s := s) hd0 (show isIn 2 1 7 = true from rfl) h8)
  have hin : isIn 2 1 7 = true := rfl
  have HNm : Hid (namesFit 2 f s = (quoteOk s && (f.toList == []))) := by show _ = _; rw [noneB_text]; rfl
  have HCt : Hid (countFits 2 xs.length = ((xs.length : Int) == 0)) := (len_eq xs.length 0).symm
  cases hA : (n != 0)
  case true =>
    have HF : Hid (exFault (.mk 2 n f s xs) d = 4) := by show _ = _; rw [HT.out, if_pos (Or.inl ⟨bne_iff_ne.1 hA, by decide⟩)]
    clear HT HNm HCt HIH HREST
    go_enter Tryz.func44, Tryz.ntmps44
    go_wp2_with (first | (go_at_call 43; refine (in_any _ _ _ _).mono ?_; rintro e w' ⟨rfl, rfl⟩) | (go_at_call 65; refine (quoteMay_any _ (by assumption) _).mono ?_; rintro e w' ⟨rfl, rfl⟩) | (go_at_call 10; refine (nameMay_any _ (by assumption) _).mono ?_; rintro e w' ⟨rfl, rfl⟩))
    go_ret
    exact ⟨by rw [HF.out]; rfl, HB.out⟩
  have hn : n = 0 := by
    by_cases h : n = 0
    · exact h
    · rw [bne_iff_ne.2 h] at hA; cases hA
  subst hn
  clear hA
  cases hF : (f.toList == [])
  case false =>
    have HF : Hid (exFault (.mk 2 0 f s xs) d = 4) := by show _ = _; rw [HT.out, if_pos (Or.inr (Or.inl (HNm.out.trans (by rw [hF]; simp))))]
    clear HT HNm HCt HIH HREST
    go_enter Tryz.func44, Tryz.ntmps44
    go_wp2_with (first | (go_at_call 43; refine (in_any _ _ _ _).mono ?_; rintro e w' ⟨rfl, rfl⟩) | (go_at_call 65; refine (quoteMay_any _ (by assumption) _).mono ?_; rintro e w' ⟨rfl, rfl⟩) | (go_at_call 10; refine (nameMay_any _ (by assumption) _).mono ?_; rintro e w' ⟨rfl, rfl⟩))
    go_ret
    exact ⟨by rw [HF.out]; rfl, HB.out⟩
  cases hQ : (quoteOk s)
  case false =>
    have HF : Hid (exFault (.mk 2 0 f s xs) d = 4) := by show _ = _; rw [HT.out, if_pos (Or.inr (Or.inl (HNm.out.trans (by rw [hQ]; simp))))]
    clear HT HNm HCt HIH HREST
    go_enter Tryz.func44, Tryz.ntmps44
    go_wp2_with (first | (go_at_call 43; refine (in_any _ _ _ _).mono ?_; rintro e w' ⟨rfl, rfl⟩) | (go_at_call 65; refine (quoteMay_any _ (by assumption) _).mono ?_; rintro e w' ⟨rfl, rfl⟩) | (go_at_call 10; refine (nameMay_any _ (by assumption) _).mono ?_; rintro e w' ⟨rfl, rfl⟩))
    go_ret
    exact ⟨by rw [HF.out]; rfl, HB.out⟩
  cases hC : ((xs.length : Int) == 0)
  case false =>
    have HF : Hid (exFault (.mk 2 0 f s xs) d = 4) := by show _ = _; rw [HT.out, if_pos (Or.inr (Or.inr (HCt.out.trans hC)))]
    clear HT HNm HCt HIH HREST
    go_enter Tryz.func44, Tryz.ntmps44
    go_wp2_with (first | (go_at_call 43; refine (in_any _ _ _ _).mono ?_; rintro e w' ⟨rfl, rfl⟩) | (go_at_call 65; refine (quoteMay_any _ (by assumption) _).mono ?_; rintro e w' ⟨rfl, rfl⟩) | (go_at_call 10; refine (nameMay_any _ (by assumption) _).mono ?_; rintro e w' ⟨rfl, rfl⟩))
    go_ret
    exact ⟨by rw [HF.out]; rfl, HB.out⟩
  have HF : Hid (exFault (.mk 2 0 f s xs) d = firstBad (fun t => exFault t (d + 1)) xs) := by
    show _ = _
    rw [HT.out, if_neg, if_neg (by rw [show isIn 0 0 999999 = true from rfl]; simp), exsFault_first]
    rintro (h | h | h)
    · exact h.1 rfl
    · rw [HNm.out, hQ, hF] at h; cases h
    · rw [HCt.out, hC] at h; cases h
  clear HT HNm HCt

  go_enter Tryz.func44, Tryz.ntmps44
  go_wp2_with (first | (go_at_call 43; refine (in_any _ _ _ _).mono ?_; rintro e w' ⟨rfl, rfl⟩) | (go_at_call 65; refine (quoteMay_any _ (by assumption) _).mono ?_; rintro e w' ⟨rfl, rfl⟩) | (go_at_call 10; refine (nameMay_any _ (by assumption) _).mono ?_; rintro e w' ⟨rfl, rfl⟩))
  go_loopw [7] (fun i wr => ∃ j : Nat, j ≤ xs.length ∧ i = .int .i64 j ∧ (∀ q (hq : q < xs.length), q < j → exFault xs[q] (d + 1) = 0) ∧ Below (w.heap.size + 1) (w.alloc (.cells #[.int .i64 2, .int .i64 0, .string f, .string s, .slice a xs.length cap] 52)) wr) (fun i _ => xs.length - (intOf i).toNat)
  case atStart => exact ⟨0, Nat.zero_le _, rfl, fun q _ h => absurd h (by omega), Below.refl _ _⟩
  case round =>
    obtain ⟨j, hj, rfl, hall, hbl⟩ := hrel
    have HA := veil hall
    clear hall
    have hc := fun o => hbl.cell (p := ⟨w.heap.size, o, none⟩) (by show w.heap.size < w.heap.size + 1; omega)
    have hbs : w.heap.size + 1 ≤ wr.heap.size := by have := hbl.size; simpa using this
    have HL := veil (HB.out.trans (hbl.mono (by omega)))
    have HBL := veil hbl
    clear hbl
    by_cases hlt : j < xs.length
    · rcases HREST.out with h0 | ⟨b, off, rfl, hb, hrow⟩
      · omega
      have hbw := hS b hb
      obtain ⟨kd, nu, fo, na, va, c0, c1, c2, c3, c4, hcs⟩ := exAt_cells.1 (hrow.get j hlt)
      obtain ⟨va1, va2, va3, rfl⟩ := hcs.slice
      have d0 := (HL.out.cell (p := ⟨b, off + j * 5, none⟩) hbw).trans c0
      have d1 := (HL.out.cell (p := ⟨b, off + j * 5 + 1, none⟩) hbw).trans c1
      have d2 := (HL.out.cell (p := ⟨b, off + j * 5 + 2, none⟩) hbw).trans c2
      have d3 := (HL.out.cell (p := ⟨b, off + j * 5 + 3, none⟩) hbw).trans c3
      have d4 := (HL.out.cell (p := ⟨b, off + j * 5 + 4, none⟩) hbw).trans c4
      have cI := HIH.out S xs[j] (.agg #[.int .i64 kd, .int .i64 nu, .string fo, .string na, .slice va1 va2 va3]) wr (fun b h => by have := hS b h; omega) ⟨_, _, _, _, _, rfl, hcs.keep (Keeps.below HL.out hS)⟩
      have en : ((d + 1 : Nat) : Int) = (d : Int) + 1 := by omega
      rw [en] at cI
      clear c0 c1 c2 c3 c4 hcs hrow HIH HREST
      by_cases hz : exFault xs[j] (d + 1) = 0
      · have hz' : (exFault xs[j] (d + 1) != 0) = false := by simp [hz]
        have HN : Hid (∀ q (hq : q < xs.length), q < j + 1 → exFault xs[q] (d + 1) = 0) := fun q hq hqj => by
          by_cases e : q = j
          · subst e; exact hz
          · exact HA.out q hq (by omega)
        clear hz HA
        generalize exFault xs[j] (d + 1) = fk at *
        go_wp2_with fail
        refine cI.mono ?_
        rintro e w' ⟨rfl, hb'⟩
        go_wp2_with fail
        exact ⟨⟨j + 1, by omega, by go_num, HN.out, HBL.out.trans (hb'.mono hbs)⟩, by simp [intOf]; omega⟩
      · have hz' : (exFault xs[j] (d + 1) != 0) = true := by simp [hz]
        have HFF := veil (HF.out.trans (firstBad_at (fun t => exFault t (d + 1)) xs j hlt (fun q hq => HA.out q (by omega) hq) hz))
        clear hz HA
        generalize exFault xs[j] (d + 1) = fk at *
        go_wp2_with fail
        refine cI.mono ?_
        rintro e w' ⟨rfl, hb'⟩
        go_wp2_with fail
        go_ret
        exact ⟨by rw [HFF.out]; rfl, HL.out.trans (hb'.mono (by omega))⟩
    · have HFF := veil (HF.out.trans (firstBad_none (fun t => exFault t (d + 1)) xs fun q hq => HA.out q hq (by omega)))
      clear HREST HIH
      go_wp2_with fail
      go_ret
      exact ⟨by rw [HFF.out]; rfl, HL.out⟩

set_option maxHeartbeats 8000000 in
set_option maxRecDepth 100000 in
theorem exprFault_k3 (d : Nat) (hd1 : d < 1000) (hd0 : ¬ 10 < d) (ih : ExprFaultAt (d + 1)) (S : Nat → Prop) (n : Int) (f s : ByteArray) (xs : List Ex) (a : Option Addr) (cap : Nat) (w : World) (_hf : f.size ≤ maxLen) (hs : s.size ≤ maxLen) (hS : ∀ b, S b → b < w.heap.size)
    (h8 : ¬ 8 < xs.length) (hrest : xs.length = 0 ∨ ∃ b o, a = some ⟨b, o, none⟩ ∧ S b ∧ RowAt (ExAt S w) 5 xs b o) :
    Calls Tryz.prog 44 #[.agg #[.int .i64 3, .int .i64 n, .string f, .string s, .slice a xs.length cap], .int .i64 d] w fun e w' => e = .returned (.int .i64 (exFault (.mk 3 n f s xs) d)) ∧ Below w.heap.size w w' := by
  have HIH := veil ih
  have HREST := veil hrest
  clear ih hrest
  have hd' : ¬ (10 : Int) < (d : Int) := by omega
  have h8' : ¬ (8 : Int) < (xs.length : Int) := by omega
  have HB : Hid (Below w.heap.size w (w.alloc (.cells #[.int .i64 3, .int .i64 n, .string f, .string s, .slice a xs.length cap] 52))) := (Below.refl _ _).alloc (Nat.le_refl _) _
  have HT := veil (exFault_tail (n := n) (f := f) (s := s) hd0 (show isIn 3 1 7 = true from rfl) h8)
  have hin : isIn 3 1 7 = true := rfl
  have HNm : Hid (namesFit 3 f s = (identOk s && (f.toList == []))) := by show _ = _; rw [noneB_text]; rfl
  have HCt : Hid (countFits 3 xs.length = ((xs.length : Int) == 0)) := (len_eq xs.length 0).symm
  cases hA : (n != 0)
  case true =>
    have HF : Hid (exFault (.mk 3 n f s xs) d = 4) := by show _ = _; rw [HT.out, if_pos (Or.inl ⟨bne_iff_ne.1 hA, by decide⟩)]
    clear HT HNm HCt HIH HREST
    go_enter Tryz.func44, Tryz.ntmps44
    go_wp2_with (first | (go_at_call 43; refine (in_any _ _ _ _).mono ?_; rintro e w' ⟨rfl, rfl⟩) | (go_at_call 65; refine (quoteMay_any _ (by assumption) _).mono ?_; rintro e w' ⟨rfl, rfl⟩) | (go_at_call 10; refine (nameMay_any _ (by assumption) _).mono ?_; rintro e w' ⟨rfl, rfl⟩))
    go_ret
    exact ⟨by rw [HF.out]; rfl, HB.out⟩
  have hn : n = 0 := by
    by_cases h : n = 0
    · exact h
    · rw [bne_iff_ne.2 h] at hA; cases hA
  subst hn
  clear hA
  cases hF : (f.toList == [])
  case false =>
    have HF : Hid (exFault (.mk 3 0 f s xs) d = 4) := by show _ = _; rw [HT.out, if_pos (Or.inr (Or.inl (HNm.out.trans (by rw [hF]; simp))))]
    clear HT HNm HCt HIH HREST
    go_enter Tryz.func44, Tryz.ntmps44
    go_wp2_with (first | (go_at_call 43; refine (in_any _ _ _ _).mono ?_; rintro e w' ⟨rfl, rfl⟩) | (go_at_call 65; refine (quoteMay_any _ (by assumption) _).mono ?_; rintro e w' ⟨rfl, rfl⟩) | (go_at_call 10; refine (nameMay_any _ (by assumption) _).mono ?_; rintro e w' ⟨rfl, rfl⟩))
    go_ret
    exact ⟨by rw [HF.out]; rfl, HB.out⟩
  cases hI : (identOk s)
  case false =>
    have HF : Hid (exFault (.mk 3 0 f s xs) d = 4) := by show _ = _; rw [HT.out, if_pos (Or.inr (Or.inl (HNm.out.trans (by rw [hI]; simp))))]
    clear HT HNm HCt HIH HREST
    go_enter Tryz.func44, Tryz.ntmps44
    go_wp2_with (first | (go_at_call 43; refine (in_any _ _ _ _).mono ?_; rintro e w' ⟨rfl, rfl⟩) | (go_at_call 65; refine (quoteMay_any _ (by assumption) _).mono ?_; rintro e w' ⟨rfl, rfl⟩) | (go_at_call 10; refine (nameMay_any _ (by assumption) _).mono ?_; rintro e w' ⟨rfl, rfl⟩))
    go_ret
    exact ⟨by rw [HF.out]; rfl, HB.out⟩
  cases hC : ((xs.length : Int) == 0)
  case false =>
    have HF : Hid (exFault (.mk 3 0 f s xs) d = 4) := by show _ = _; rw [HT.out, if_pos (Or.inr (Or.inr (HCt.out.trans hC)))]
    clear HT HNm HCt HIH HREST
    go_enter Tryz.func44, Tryz.ntmps44
    go_wp2_with (first | (go_at_call 43; refine (in_any _ _ _ _).mono ?_; rintro e w' ⟨rfl, rfl⟩) | (go_at_call 65; refine (quoteMay_any _ (by assumption) _).mono ?_; rintro e w' ⟨rfl, rfl⟩) | (go_at_call 10; refine (nameMay_any _ (by assumption) _).mono ?_; rintro e w' ⟨rfl, rfl⟩))
    go_ret
    exact ⟨by rw [HF.out]; rfl, HB.out⟩
  have HF : Hid (exFault (.mk 3 0 f s xs) d = firstBad (fun t => exFault t (d + 1)) xs) := by
    show _ = _
    rw [HT.out, if_neg, if_neg (by rw [show isIn 0 0 999999 = true from rfl]; simp), exsFault_first]
    rintro (h | h | h)
    · exact h.1 rfl
    · rw [HNm.out, hI, hF] at h; cases h
    · rw [HCt.out, hC] at h; cases h
  clear HT HNm HCt

  go_enter Tryz.func44, Tryz.ntmps44
  go_wp2_with (first | (go_at_call 43; refine (in_any _ _ _ _).mono ?_; rintro e w' ⟨rfl, rfl⟩) | (go_at_call 65; refine (quoteMay_any _ (by assumption) _).mono ?_; rintro e w' ⟨rfl, rfl⟩) | (go_at_call 10; refine (nameMay_any _ (by assumption) _).mono ?_; rintro e w' ⟨rfl, rfl⟩))
  go_loopw [7] (fun i wr => ∃ j : Nat, j ≤ xs.length ∧ i = .int .i64 j ∧ (∀ q (hq : q < xs.length), q < j → exFault xs[q] (d + 1) = 0) ∧ Below (w.heap.size + 1) (w.alloc (.cells #[.int .i64 3, .int .i64 0, .string f, .string s, .slice a xs.length cap] 52)) wr) (fun i _ => xs.length - (intOf i).toNat)
  case atStart => exact ⟨0, Nat.zero_le _, rfl, fun q _ h => absurd h (by omega), Below.refl _ _⟩
  case round =>
    obtain ⟨j, hj, rfl, hall, hbl⟩ := hrel
    have HA := veil hall
    clear hall
    have hc := fun o => hbl.cell (p := ⟨w.heap.size, o, none⟩) (by show w.heap.size < w.heap.size + 1; omega)
    have hbs : w.heap.size + 1 ≤ wr.heap.size := by have := hbl.size; simpa using this
    have HL := veil (HB.out.trans (hbl.mono (by omega)))
    have HBL := veil hbl
    clear hbl
    by_cases hlt : j < xs.length
    · rcases HREST.out with h0 | ⟨b, off, rfl, hb, hrow⟩
      · omega
      have hbw := hS b hb
      obtain ⟨kd, nu, fo, na, va, c0, c1, c2, c3, c4, hcs⟩ := exAt_cells.1 (hrow.get j hlt)
      obtain ⟨va1, va2, va3, rfl⟩ := hcs.slice
      have d0 := (HL.out.cell (p := ⟨b, off + j * 5, none⟩) hbw).trans c0
      have d1 := (HL.out.cell (p := ⟨b, off + j * 5 + 1, none⟩) hbw).trans c1
      have d2 := (HL.out.cell (p := ⟨b, off + j * 5 + 2, none⟩) hbw).trans c2
      have d3 := (HL.out.cell (p := ⟨b, off + j * 5 + 3, none⟩) hbw).trans c3
      have d4 := (HL.out.cell (p := ⟨b, off + j * 5 + 4, none⟩) hbw).trans c4
      have cI := HIH.out S xs[j] (.agg #[.int .i64 kd, .int .i64 nu, .string fo, .string na, .slice va1 va2 va3]) wr (fun b h => by have := hS b h; omega) ⟨_, _, _, _, _, rfl, hcs.keep (Keeps.below HL.out hS)⟩
      have en : ((d + 1 : Nat) : Int) = (d : Int) + 1 := by omega
      rw [en] at cI
      clear c0 c1 c2 c3 c4 hcs hrow HIH HREST
      by_cases hz : exFault xs[j] (d + 1) = 0
      · have hz' : (exFault xs[j] (d + 1) != 0) = false := by simp [hz]
        have HN : Hid (∀ q (hq : q < xs.length), q < j + 1 → exFault xs[q] (d + 1) = 0) := fun q hq hqj => by
          by_cases e : q = j
          · subst e; exact hz
          · exact HA.out q hq (by omega)
        clear hz HA
        generalize exFault xs[j] (d + 1) = fk at *
        go_wp2_with fail
        refine cI.mono ?_
        rintro e w' ⟨rfl, hb'⟩
        go_wp2_with fail
        exact ⟨⟨j + 1, by omega, by go_num, HN.out, HBL.out.trans (hb'.mono hbs)⟩, by simp [intOf]; omega⟩
      · have hz' : (exFault xs[j] (d + 1) != 0) = true := by simp [hz]
        have HFF := veil (HF.out.trans (firstBad_at (fun t => exFault t (d + 1)) xs j hlt (fun q hq => HA.out q (by omega) hq) hz))
        clear hz HA
        generalize exFault xs[j] (d + 1) = fk at *
        go_wp2_with fail
        refine cI.mono ?_
        rintro e w' ⟨rfl, hb'⟩
        go_wp2_with fail
        go_ret
        exact ⟨by rw [HFF.out]; rfl, HL.out.trans (hb'.mono (by omega))⟩
    · have HFF := veil (HF.out.trans (firstBad_none (fun t => exFault t (d + 1)) xs fun q hq => HA.out q hq (by omega)))
      clear HREST HIH
      go_wp2_with fail
      go_ret
      exact ⟨by rw [HFF.out]; rfl, HL.out⟩

set_option maxHeartbeats 8000000 in
set_option maxRecDepth 100000 in
theorem exprFault_k4 (d : Nat) (hd1 : d < 1000) (hd0 : ¬ 10 < d) (ih : ExprFaultAt (d + 1)) (S : Nat → Prop) (n : Int) (f s : ByteArray) (xs : List Ex) (a : Option Addr) (cap : Nat) (w : World) (hf : f.size ≤ maxLen) (hs : s.size ≤ maxLen) (hS : ∀ b, S b → b < w.heap.size)
    (h8 : ¬ 8 < xs.length) (hrest : xs.length = 0 ∨ ∃ b o, a = some ⟨b, o, none⟩ ∧ S b ∧ RowAt (ExAt S w) 5 xs b o) :
    Calls Tryz.prog 44 #[.agg #[.int .i64 4, .int .i64 n, .string f, .string s, .slice a xs.length cap], .int .i64 d] w fun e w' => e = .returned (.int .i64 (exFault (.mk 4 n f s xs) d)) ∧ Below w.heap.size w w' := by
  have HIH := veil ih
  have HREST := veil hrest
  clear ih hrest
  have hd' : ¬ (10 : Int) < (d : Int) := by omega
  have h8' : ¬ (8 : Int) < (xs.length : Int) := by omega
  have HB : Hid (Below w.heap.size w (w.alloc (.cells #[.int .i64 4, .int .i64 n, .string f, .string s, .slice a xs.length cap] 52))) := (Below.refl _ _).alloc (Nat.le_refl _) _
  have HT := veil (exFault_tail (n := n) (f := f) (s := s) hd0 (show isIn 4 1 7 = true from rfl) h8)
  have hin : isIn 4 1 7 = true := rfl
  have HNm : Hid (namesFit 4 f s = (identOk s && ((f.toList == []) || identOk f))) := by show _ = _; rw [noneB_text]; rfl
  have HCt : Hid (countFits 4 xs.length = (true)) := rfl
  cases hA : (n != 0)
  case true =>
    have HF : Hid (exFault (.mk 4 n f s xs) d = 4) := by show _ = _; rw [HT.out, if_pos (Or.inl ⟨bne_iff_ne.1 hA, by decide⟩)]
    clear HT HNm HCt HIH HREST
    go_enter Tryz.func44, Tryz.ntmps44
    go_wp2_with (first | (go_at_call 43; refine (in_any _ _ _ _).mono ?_; rintro e w' ⟨rfl, rfl⟩) | (go_at_call 65; refine (quoteMay_any _ (by assumption) _).mono ?_; rintro e w' ⟨rfl, rfl⟩) | (go_at_call 10; refine (nameMay_any _ (by assumption) _).mono ?_; rintro e w' ⟨rfl, rfl⟩))
    go_ret
    exact ⟨by rw [HF.out]; rfl, HB.out⟩
  have hn : n = 0 := by
    by_cases h : n = 0
    · exact h
    · rw [bne_iff_ne.2 h] at hA; cases hA
  subst hn
  clear hA
  cases hI : (identOk s)
  case false =>
    have HF : Hid (exFault (.mk 4 0 f s xs) d = 4) := by show _ = _; rw [HT.out, if_pos (Or.inr (Or.inl (HNm.out.trans (by rw [hI]; simp))))]
    clear HT HNm HCt HIH HREST
    go_enter Tryz.func44, Tryz.ntmps44
    go_wp2_with (first | (go_at_call 43; refine (in_any _ _ _ _).mono ?_; rintro e w' ⟨rfl, rfl⟩) | (go_at_call 65; refine (quoteMay_any _ (by assumption) _).mono ?_; rintro e w' ⟨rfl, rfl⟩) | (go_at_call 10; refine (nameMay_any _ (by assumption) _).mono ?_; rintro e w' ⟨rfl, rfl⟩))
    go_ret
    exact ⟨by rw [HF.out]; rfl, HB.out⟩
  cases hF : (f.toList == [])
  case false =>
    cases hJ : identOk f
    case false =>
      have HF : Hid (exFault (.mk 4 0 f s xs) d = 4) := by show _ = _; rw [HT.out, if_pos (Or.inr (Or.inl (HNm.out.trans (by rw [hI, hF, hJ]; rfl))))]
      clear HT HNm HCt HIH HREST
      go_enter Tryz.func44, Tryz.ntmps44
      go_wp2_with (first | (go_at_call 43; refine (in_any _ _ _ _).mono ?_; rintro e w' ⟨rfl, rfl⟩) | (go_at_call 65; refine (quoteMay_any _ (by assumption) _).mono ?_; rintro e w' ⟨rfl, rfl⟩) | (go_at_call 10; refine (nameMay_any _ (by assumption) _).mono ?_; rintro e w' ⟨rfl, rfl⟩))
      go_ret
      exact ⟨by rw [HF.out]; rfl, HB.out⟩
    have HF : Hid (exFault (.mk 4 0 f s xs) d = firstBad (fun t => exFault t (d + 1)) xs) := by
      show _ = _
      rw [HT.out, if_neg, if_neg (by rw [show isIn 0 0 999999 = true from rfl]; simp), exsFault_first]
      rintro (h | h | h)
      · exact h.1 rfl
      · rw [HNm.out, hI, hF, hJ] at h; cases h
      · rw [HCt.out] at h; cases h
    clear HT HNm HCt

    go_enter Tryz.func44, Tryz.ntmps44
    go_wp2_with (first | (go_at_call 43; refine (in_any _ _ _ _).mono ?_; rintro e w' ⟨rfl, rfl⟩) | (go_at_call 65; refine (quoteMay_any _ (by assumption) _).mono ?_; rintro e w' ⟨rfl, rfl⟩) | (go_at_call 10; refine (nameMay_any _ (by assumption) _).mono ?_; rintro e w' ⟨rfl, rfl⟩))
    go_loopw [7] (fun i wr => ∃ j : Nat, j ≤ xs.length ∧ i = .int .i64 j ∧ (∀ q (hq : q < xs.length), q < j → exFault xs[q] (d + 1) = 0) ∧ Below (w.heap.size + 1) (w.alloc (.cells #[.int .i64 4, .int .i64 0, .string f, .string s, .slice a xs.length cap] 52)) wr) (fun i _ => xs.length - (intOf i).toNat)
    case atStart => exact ⟨0, Nat.zero_le _, rfl, fun q _ h => absurd h (by omega), Below.refl _ _⟩
    case round =>
      obtain ⟨j, hj, rfl, hall, hbl⟩ := hrel
      have HA := veil hall
      clear hall
      have hc := fun o => hbl.cell (p := ⟨w.heap.size, o, none⟩) (by show w.heap.size < w.heap.size + 1; omega)
      have hbs : w.heap.size + 1 ≤ wr.heap.size := by have := hbl.size; simpa using this
      have HL := veil (HB.out.trans (hbl.mono (by omega)))
      have HBL := veil hbl
      clear hbl
      by_cases hlt : j < xs.length
      · rcases HREST.out with h0 | ⟨b, off, rfl, hb, hrow⟩
        · omega
        have hbw := hS b hb
        obtain ⟨kd, nu, fo, na, va, c0, c1, c2, c3, c4, hcs⟩ := exAt_cells.1 (hrow.get j hlt)
        obtain ⟨va1, va2, va3, rfl⟩ := hcs.slice
        have d0 := (HL.out.cell (p := ⟨b, off + j * 5, none⟩) hbw).trans c0
        have d1 := (HL.out.cell (p := ⟨b, off + j * 5 + 1, none⟩) hbw).trans c1
        have d2 := (HL.out.cell (p := ⟨b, off + j * 5 + 2, none⟩) hbw).trans c2
        have d3 := (HL.out.cell (p := ⟨b, off + j * 5 + 3, none⟩) hbw).trans c3
        have d4 := (HL.out.cell (p := ⟨b, off + j * 5 + 4, none⟩) hbw).trans c4
        have cI := HIH.out S xs[j] (.agg #[.int .i64 kd, .int .i64 nu, .string fo, .string na, .slice va1 va2 va3]) wr (fun b h => by have := hS b h; omega) ⟨_, _, _, _, _, rfl, hcs.keep (Keeps.below HL.out hS)⟩
        have en : ((d + 1 : Nat) : Int) = (d : Int) + 1 := by omega
        rw [en] at cI
        clear c0 c1 c2 c3 c4 hcs hrow HIH HREST
        by_cases hz : exFault xs[j] (d + 1) = 0
        · have hz' : (exFault xs[j] (d + 1) != 0) = false := by simp [hz]
          have HN : Hid (∀ q (hq : q < xs.length), q < j + 1 → exFault xs[q] (d + 1) = 0) := fun q hq hqj => by
            by_cases e : q = j
            · subst e; exact hz
            · exact HA.out q hq (by omega)
          clear hz HA
          generalize exFault xs[j] (d + 1) = fk at *
          go_wp2_with fail
          refine cI.mono ?_
          rintro e w' ⟨rfl, hb'⟩
          go_wp2_with fail
          exact ⟨⟨j + 1, by omega, by go_num, HN.out, HBL.out.trans (hb'.mono hbs)⟩, by simp [intOf]; omega⟩
        · have hz' : (exFault xs[j] (d + 1) != 0) = true := by simp [hz]
          have HFF := veil (HF.out.trans (firstBad_at (fun t => exFault t (d + 1)) xs j hlt (fun q hq => HA.out q (by omega) hq) hz))
          clear hz HA
          generalize exFault xs[j] (d + 1) = fk at *
          go_wp2_with fail
          refine cI.mono ?_
          rintro e w' ⟨rfl, hb'⟩
          go_wp2_with fail
          go_ret
          exact ⟨by rw [HFF.out]; rfl, HL.out.trans (hb'.mono (by omega))⟩
      · have HFF := veil (HF.out.trans (firstBad_none (fun t => exFault t (d + 1)) xs fun q hq => HA.out q hq (by omega)))
        clear HREST HIH
        go_wp2_with fail
        go_ret
        exact ⟨by rw [HFF.out]; rfl, HL.out⟩
  have HF : Hid (exFault (.mk 4 0 f s xs) d = firstBad (fun t => exFault t (d + 1)) xs) := by
    show _ = _
    rw [HT.out, if_neg, if_neg (by rw [show isIn 0 0 999999 = true from rfl]; simp), exsFault_first]
    rintro (h | h | h)
    · exact h.1 rfl
    · rw [HNm.out, hI, hF] at h; cases h
    · rw [HCt.out] at h; cases h
  clear HT HNm HCt

  go_enter Tryz.func44, Tryz.ntmps44
  go_wp2_with (first | (go_at_call 43; refine (in_any _ _ _ _).mono ?_; rintro e w' ⟨rfl, rfl⟩) | (go_at_call 65; refine (quoteMay_any _ (by assumption) _).mono ?_; rintro e w' ⟨rfl, rfl⟩) | (go_at_call 10; refine (nameMay_any _ (by assumption) _).mono ?_; rintro e w' ⟨rfl, rfl⟩))
  go_loopw [7] (fun i wr => ∃ j : Nat, j ≤ xs.length ∧ i = .int .i64 j ∧ (∀ q (hq : q < xs.length), q < j → exFault xs[q] (d + 1) = 0) ∧ Below (w.heap.size + 1) (w.alloc (.cells #[.int .i64 4, .int .i64 0, .string f, .string s, .slice a xs.length cap] 52)) wr) (fun i _ => xs.length - (intOf i).toNat)
  case atStart => exact ⟨0, Nat.zero_le _, rfl, fun q _ h => absurd h (by omega), Below.refl _ _⟩
  case round =>
    obtain ⟨j, hj, rfl, hall, hbl⟩ := hrel
    have HA := veil hall
    clear hall
    have hc := fun o => hbl.cell (p := ⟨w.heap.size, o, none⟩) (by show w.heap.size < w.heap.size + 1; omega)
    have hbs : w.heap.size + 1 ≤ wr.heap.size := by have := hbl.size; simpa using this
    have HL := veil (HB.out.trans (hbl.mono (by omega)))
    have HBL := veil hbl
    clear hbl
    by_cases hlt : j < xs.length
    · rcases HREST.out with h0 | ⟨b, off, rfl, hb, hrow⟩
      · omega
      have hbw := hS b hb
      obtain ⟨kd, nu, fo, na, va, c0, c1, c2, c3, c4, hcs⟩ := exAt_cells.1 (hrow.get j hlt)
      obtain ⟨va1, va2, va3, rfl⟩ := hcs.slice
      have d0 := (HL.out.cell (p := ⟨b, off + j * 5, none⟩) hbw).trans c0
      have d1 := (HL.out.cell (p := ⟨b, off + j * 5 + 1, none⟩) hbw).trans c1
      have d2 := (HL.out.cell (p := ⟨b, off + j * 5 + 2, none⟩) hbw).trans c2
      have d3 := (HL.out.cell (p := ⟨b, off + j * 5 + 3, none⟩) hbw).trans c3
      have d4 := (HL.out.cell (p := ⟨b, off + j * 5 + 4, none⟩) hbw).trans c4
      have cI := HIH.out S xs[j] (.agg #[.int .i64 kd, .int .i64 nu, .string fo, .string na, .slice va1 va2 va3]) wr (fun b h => by have := hS b h; omega) ⟨_, _, _, _, _, rfl, hcs.keep (Keeps.below HL.out hS)⟩
      have en : ((d + 1 : Nat) : Int) = (d : Int) + 1 := by omega
      rw [en] at cI
      clear c0 c1 c2 c3 c4 hcs hrow HIH HREST
      by_cases hz : exFault xs[j] (d + 1) = 0
      · have hz' : (exFault xs[j] (d + 1) != 0) = false := by simp [hz]
        have HN : Hid (∀ q (hq : q < xs.length), q < j + 1 → exFault xs[q] (d + 1) = 0) := fun q hq hqj => by
          by_cases e : q = j
          · subst e; exact hz
          · exact HA.out q hq (by omega)
        clear hz HA
        generalize exFault xs[j] (d + 1) = fk at *
        go_wp2_with fail
        refine cI.mono ?_
        rintro e w' ⟨rfl, hb'⟩
        go_wp2_with fail
        exact ⟨⟨j + 1, by omega, by go_num, HN.out, HBL.out.trans (hb'.mono hbs)⟩, by simp [intOf]; omega⟩
      · have hz' : (exFault xs[j] (d + 1) != 0) = true := by simp [hz]
        have HFF := veil (HF.out.trans (firstBad_at (fun t => exFault t (d + 1)) xs j hlt (fun q hq => HA.out q (by omega) hq) hz))
        clear hz HA
        generalize exFault xs[j] (d + 1) = fk at *
        go_wp2_with fail
        refine cI.mono ?_
        rintro e w' ⟨rfl, hb'⟩
        go_wp2_with fail
        go_ret
        exact ⟨by rw [HFF.out]; rfl, HL.out.trans (hb'.mono (by omega))⟩
    · have HFF := veil (HF.out.trans (firstBad_none (fun t => exFault t (d + 1)) xs fun q hq => HA.out q hq (by omega)))
      clear HREST HIH
      go_wp2_with fail
      go_ret
      exact ⟨by rw [HFF.out]; rfl, HL.out⟩

set_option maxHeartbeats 8000000 in
set_option maxRecDepth 100000 in
theorem exprFault_k5 (d : Nat) (hd1 : d < 1000) (hd0 : ¬ 10 < d) (ih : ExprFaultAt (d + 1)) (S : Nat → Prop) (n : Int) (f s : ByteArray) (xs : List Ex) (a : Option Addr) (cap : Nat) (w : World) (_hf : f.size ≤ maxLen) (_hs : s.size ≤ maxLen) (hS : ∀ b, S b → b < w.heap.size)
    (h8 : ¬ 8 < xs.length) (hrest : xs.length = 0 ∨ ∃ b o, a = some ⟨b, o, none⟩ ∧ S b ∧ RowAt (ExAt S w) 5 xs b o) :
    Calls Tryz.prog 44 #[.agg #[.int .i64 5, .int .i64 n, .string f, .string s, .slice a xs.length cap], .int .i64 d] w fun e w' => e = .returned (.int .i64 (exFault (.mk 5 n f s xs) d)) ∧ Below w.heap.size w w' := by
  have HIH := veil ih
  have HREST := veil hrest
  clear ih hrest
  have hd' : ¬ (10 : Int) < (d : Int) := by omega
  have h8' : ¬ (8 : Int) < (xs.length : Int) := by omega
  have HB : Hid (Below w.heap.size w (w.alloc (.cells #[.int .i64 5, .int .i64 n, .string f, .string s, .slice a xs.length cap] 52))) := (Below.refl _ _).alloc (Nat.le_refl _) _
  have HT := veil (exFault_tail (n := n) (f := f) (s := s) hd0 (show isIn 5 1 7 = true from rfl) h8)
  have hin : isIn 5 1 7 = true := rfl
  have HNm : Hid (namesFit 5 f s = ((s.toList == []) && (f.toList == []))) := by show _ = _; rw [noneB_text, noneB_text]; rfl
  have HCt : Hid (countFits 5 xs.length = ((xs.length : Int) == 2)) := (len_eq xs.length 2).symm
  cases hA : (n != 0)
  case true =>
    have HF : Hid (exFault (.mk 5 n f s xs) d = 4) := by show _ = _; rw [HT.out, if_pos (Or.inl ⟨bne_iff_ne.1 hA, by decide⟩)]
    clear HT HNm HCt HIH HREST
    go_enter Tryz.func44, Tryz.ntmps44
    go_wp2_with (first | (go_at_call 43; refine (in_any _ _ _ _).mono ?_; rintro e w' ⟨rfl, rfl⟩) | (go_at_call 65; refine (quoteMay_any _ (by assumption) _).mono ?_; rintro e w' ⟨rfl, rfl⟩) | (go_at_call 10; refine (nameMay_any _ (by assumption) _).mono ?_; rintro e w' ⟨rfl, rfl⟩))
    go_ret
    exact ⟨by rw [HF.out]; rfl, HB.out⟩
  have hn : n = 0 := by
    by_cases h : n = 0
    · exact h
    · rw [bne_iff_ne.2 h] at hA; cases hA
  subst hn
  clear hA
  cases hF : (f.toList == [])
  case false =>
    have HF : Hid (exFault (.mk 5 0 f s xs) d = 4) := by show _ = _; rw [HT.out, if_pos (Or.inr (Or.inl (HNm.out.trans (by rw [hF]; simp))))]
    clear HT HNm HCt HIH HREST
    go_enter Tryz.func44, Tryz.ntmps44
    go_wp2_with (first | (go_at_call 43; refine (in_any _ _ _ _).mono ?_; rintro e w' ⟨rfl, rfl⟩) | (go_at_call 65; refine (quoteMay_any _ (by assumption) _).mono ?_; rintro e w' ⟨rfl, rfl⟩) | (go_at_call 10; refine (nameMay_any _ (by assumption) _).mono ?_; rintro e w' ⟨rfl, rfl⟩))
    go_ret
    exact ⟨by rw [HF.out]; rfl, HB.out⟩
  cases hS0 : (s.toList == [])
  case false =>
    have HF : Hid (exFault (.mk 5 0 f s xs) d = 4) := by show _ = _; rw [HT.out, if_pos (Or.inr (Or.inl (HNm.out.trans (by rw [hS0]; simp))))]
    clear HT HNm HCt HIH HREST
    go_enter Tryz.func44, Tryz.ntmps44
    go_wp2_with (first | (go_at_call 43; refine (in_any _ _ _ _).mono ?_; rintro e w' ⟨rfl, rfl⟩) | (go_at_call 65; refine (quoteMay_any _ (by assumption) _).mono ?_; rintro e w' ⟨rfl, rfl⟩) | (go_at_call 10; refine (nameMay_any _ (by assumption) _).mono ?_; rintro e w' ⟨rfl, rfl⟩))
    go_ret
    exact ⟨by rw [HF.out]; rfl, HB.out⟩
  cases hC : ((xs.length : Int) == 2)
  case false =>
    have HF : Hid (exFault (.mk 5 0 f s xs) d = 4) := by show _ = _; rw [HT.out, if_pos (Or.inr (Or.inr (HCt.out.trans hC)))]
    clear HT HNm HCt HIH HREST
    go_enter Tryz.func44, Tryz.ntmps44
    go_wp2_with (first | (go_at_call 43; refine (in_any _ _ _ _).mono ?_; rintro e w' ⟨rfl, rfl⟩) | (go_at_call 65; refine (quoteMay_any _ (by assumption) _).mono ?_; rintro e w' ⟨rfl, rfl⟩) | (go_at_call 10; refine (nameMay_any _ (by assumption) _).mono ?_; rintro e w' ⟨rfl, rfl⟩))
    go_ret
    exact ⟨by rw [HF.out]; rfl, HB.out⟩
  have HF : Hid (exFault (.mk 5 0 f s xs) d = firstBad (fun t => exFault t (d + 1)) xs) := by
    show _ = _
    rw [HT.out, if_neg, if_neg (by rw [show isIn 0 0 999999 = true from rfl]; simp), exsFault_first]
    rintro (h | h | h)
    · exact h.1 rfl
    · rw [HNm.out, hS0, hF] at h; cases h
    · rw [HCt.out, hC] at h; cases h
  clear HT HNm HCt

  go_enter Tryz.func44, Tryz.ntmps44
  go_wp2_with (first | (go_at_call 43; refine (in_any _ _ _ _).mono ?_; rintro e w' ⟨rfl, rfl⟩) | (go_at_call 65; refine (quoteMay_any _ (by assumption) _).mono ?_; rintro e w' ⟨rfl, rfl⟩) | (go_at_call 10; refine (nameMay_any _ (by assumption) _).mono ?_; rintro e w' ⟨rfl, rfl⟩))
  go_loopw [7] (fun i wr => ∃ j : Nat, j ≤ xs.length ∧ i = .int .i64 j ∧ (∀ q (hq : q < xs.length), q < j → exFault xs[q] (d + 1) = 0) ∧ Below (w.heap.size + 1) (w.alloc (.cells #[.int .i64 5, .int .i64 0, .string f, .string s, .slice a xs.length cap] 52)) wr) (fun i _ => xs.length - (intOf i).toNat)
  case atStart => exact ⟨0, Nat.zero_le _, rfl, fun q _ h => absurd h (by omega), Below.refl _ _⟩
  case round =>
    obtain ⟨j, hj, rfl, hall, hbl⟩ := hrel
    have HA := veil hall
    clear hall
    have hc := fun o => hbl.cell (p := ⟨w.heap.size, o, none⟩) (by show w.heap.size < w.heap.size + 1; omega)
    have hbs : w.heap.size + 1 ≤ wr.heap.size := by have := hbl.size; simpa using this
    have HL := veil (HB.out.trans (hbl.mono (by omega)))
    have HBL := veil hbl
    clear hbl
    by_cases hlt : j < xs.length
    · rcases HREST.out with h0 | ⟨b, off, rfl, hb, hrow⟩
      · omega
      have hbw := hS b hb
      obtain ⟨kd, nu, fo, na, va, c0, c1, c2, c3, c4, hcs⟩ := exAt_cells.1 (hrow.get j hlt)
      obtain ⟨va1, va2, va3, rfl⟩ := hcs.slice
      have d0 := (HL.out.cell (p := ⟨b, off + j * 5, none⟩) hbw).trans c0
      have d1 := (HL.out.cell (p := ⟨b, off + j * 5 + 1, none⟩) hbw).trans c1
      have d2 := (HL.out.cell (p := ⟨b, off + j * 5 + 2, none⟩) hbw).trans c2
      have d3 := (HL.out.cell (p := ⟨b, off + j * 5 + 3, none⟩) hbw).trans c3
      have d4 := (HL.out.cell (p := ⟨b, off + j * 5 + 4, none⟩) hbw).trans c4
      have cI := HIH.out S xs[j] (.agg #[.int .i64 kd, .int .i64 nu, .string fo, .string na, .slice va1 va2 va3]) wr (fun b h => by have := hS b h; omega) ⟨_, _, _, _, _, rfl, hcs.keep (Keeps.below HL.out hS)⟩
      have en : ((d + 1 : Nat) : Int) = (d : Int) + 1 := by omega
      rw [en] at cI
      clear c0 c1 c2 c3 c4 hcs hrow HIH HREST
      by_cases hz : exFault xs[j] (d + 1) = 0
      · have hz' : (exFault xs[j] (d + 1) != 0) = false := by simp [hz]
        have HN : Hid (∀ q (hq : q < xs.length), q < j + 1 → exFault xs[q] (d + 1) = 0) := fun q hq hqj => by
          by_cases e : q = j
          · subst e; exact hz
          · exact HA.out q hq (by omega)
        clear hz HA
        generalize exFault xs[j] (d + 1) = fk at *
        go_wp2_with fail
        refine cI.mono ?_
        rintro e w' ⟨rfl, hb'⟩
        go_wp2_with fail
        exact ⟨⟨j + 1, by omega, by go_num, HN.out, HBL.out.trans (hb'.mono hbs)⟩, by simp [intOf]; omega⟩
      · have hz' : (exFault xs[j] (d + 1) != 0) = true := by simp [hz]
        have HFF := veil (HF.out.trans (firstBad_at (fun t => exFault t (d + 1)) xs j hlt (fun q hq => HA.out q (by omega) hq) hz))
        clear hz HA
        generalize exFault xs[j] (d + 1) = fk at *
        go_wp2_with fail
        refine cI.mono ?_
        rintro e w' ⟨rfl, hb'⟩
        go_wp2_with fail
        go_ret
        exact ⟨by rw [HFF.out]; rfl, HL.out.trans (hb'.mono (by omega))⟩
    · have HFF := veil (HF.out.trans (firstBad_none (fun t => exFault t (d + 1)) xs fun q hq => HA.out q hq (by omega)))
      clear HREST HIH
      go_wp2_with fail
      go_ret
      exact ⟨by rw [HFF.out]; rfl, HL.out⟩

set_option maxHeartbeats 8000000 in
set_option maxRecDepth 100000 in
theorem exprFault_k6 (d : Nat) (hd1 : d < 1000) (hd0 : ¬ 10 < d) (ih : ExprFaultAt (d + 1)) (S : Nat → Prop) (n : Int) (f s : ByteArray) (xs : List Ex) (a : Option Addr) (cap : Nat) (w : World) (_hf : f.size ≤ maxLen) (_hs : s.size ≤ maxLen) (hS : ∀ b, S b → b < w.heap.size)
    (h8 : ¬ 8 < xs.length) (hrest : xs.length = 0 ∨ ∃ b o, a = some ⟨b, o, none⟩ ∧ S b ∧ RowAt (ExAt S w) 5 xs b o) :
    Calls Tryz.prog 44 #[.agg #[.int .i64 6, .int .i64 n, .string f, .string s, .slice a xs.length cap], .int .i64 d] w fun e w' => e = .returned (.int .i64 (exFault (.mk 6 n f s xs) d)) ∧ Below w.heap.size w w' := by
  have HIH := veil ih
  have HREST := veil hrest
  clear ih hrest
  have hd' : ¬ (10 : Int) < (d : Int) := by omega
  have h8' : ¬ (8 : Int) < (xs.length : Int) := by omega
  have HB : Hid (Below w.heap.size w (w.alloc (.cells #[.int .i64 6, .int .i64 n, .string f, .string s, .slice a xs.length cap] 52))) := (Below.refl _ _).alloc (Nat.le_refl _) _
  have HT := veil (exFault_tail (n := n) (f := f) (s := s) hd0 (show isIn 6 1 7 = true from rfl) h8)
  have hin : isIn 6 1 7 = true := rfl
  have HNm : Hid (namesFit 6 f s = ((s.toList == []) && (f.toList == []))) := by show _ = _; rw [noneB_text, noneB_text]; rfl
  have HCt : Hid (countFits 6 xs.length = (decide (0 < xs.length))) := rfl
  cases hA : (n != 0)
  case true =>
    have HF : Hid (exFault (.mk 6 n f s xs) d = 4) := by show _ = _; rw [HT.out, if_pos (Or.inl ⟨bne_iff_ne.1 hA, by decide⟩)]
    clear HT HNm HCt HIH HREST
    go_enter Tryz.func44, Tryz.ntmps44
    go_wp2_with (first | (go_at_call 43; refine (in_any _ _ _ _).mono ?_; rintro e w' ⟨rfl, rfl⟩) | (go_at_call 65; refine (quoteMay_any _ (by assumption) _).mono ?_; rintro e w' ⟨rfl, rfl⟩) | (go_at_call 10; refine (nameMay_any _ (by assumption) _).mono ?_; rintro e w' ⟨rfl, rfl⟩))
    go_ret
    exact ⟨by rw [HF.out]; rfl, HB.out⟩
  have hn : n = 0 := by
    by_cases h : n = 0
    · exact h
    · rw [bne_iff_ne.2 h] at hA; cases hA
  subst hn
  clear hA
  cases hF : (f.toList == [])
  case false =>
    have HF : Hid (exFault (.mk 6 0 f s xs) d = 4) := by show _ = _; rw [HT.out, if_pos (Or.inr (Or.inl (HNm.out.trans (by rw [hF]; simp))))]
    clear HT HNm HCt HIH HREST
    go_enter Tryz.func44, Tryz.ntmps44
    go_wp2_with (first | (go_at_call 43; refine (in_any _ _ _ _).mono ?_; rintro e w' ⟨rfl, rfl⟩) | (go_at_call 65; refine (quoteMay_any _ (by assumption) _).mono ?_; rintro e w' ⟨rfl, rfl⟩) | (go_at_call 10; refine (nameMay_any _ (by assumption) _).mono ?_; rintro e w' ⟨rfl, rfl⟩))
    go_ret
    exact ⟨by rw [HF.out]; rfl, HB.out⟩
  cases hS0 : (s.toList == [])
  case false =>
    have HF : Hid (exFault (.mk 6 0 f s xs) d = 4) := by show _ = _; rw [HT.out, if_pos (Or.inr (Or.inl (HNm.out.trans (by rw [hS0]; simp))))]
    clear HT HNm HCt HIH HREST
    go_enter Tryz.func44, Tryz.ntmps44
    go_wp2_with (first | (go_at_call 43; refine (in_any _ _ _ _).mono ?_; rintro e w' ⟨rfl, rfl⟩) | (go_at_call 65; refine (quoteMay_any _ (by assumption) _).mono ?_; rintro e w' ⟨rfl, rfl⟩) | (go_at_call 10; refine (nameMay_any _ (by assumption) _).mono ?_; rintro e w' ⟨rfl, rfl⟩))
    go_ret
    exact ⟨by rw [HF.out]; rfl, HB.out⟩
  by_cases hC : 0 < xs.length
  case neg =>
    have hC' : decide ((1 : Int) ≤ (xs.length : Int)) = false := decide_eq_false (by omega)
    have HF : Hid (exFault (.mk 6 0 f s xs) d = 4) := by show _ = _; rw [HT.out, if_pos (Or.inr (Or.inr (HCt.out.trans (decide_eq_false hC))))]
    clear HT HNm HCt HIH HREST hC
    go_enter Tryz.func44, Tryz.ntmps44
    go_wp2_with (first | (go_at_call 43; refine (in_any _ _ _ _).mono ?_; rintro e w' ⟨rfl, rfl⟩) | (go_at_call 65; refine (quoteMay_any _ (by assumption) _).mono ?_; rintro e w' ⟨rfl, rfl⟩) | (go_at_call 10; refine (nameMay_any _ (by assumption) _).mono ?_; rintro e w' ⟨rfl, rfl⟩))
    go_ret
    exact ⟨by rw [HF.out]; rfl, HB.out⟩
  have hC' : (1 : Int) ≤ (xs.length : Int) := by omega
  have HF : Hid (exFault (.mk 6 0 f s xs) d = firstBad (fun t => exFault t (d + 1)) xs) := by
    show _ = _
    rw [HT.out, if_neg, if_neg (by rw [show isIn 0 0 999999 = true from rfl]; simp), exsFault_first]
    rintro (h | h | h)
    · exact h.1 rfl
    · rw [HNm.out, hS0, hF] at h; cases h
    · rw [HCt.out, decide_eq_true hC] at h; cases h
  clear HT HNm HCt

  go_enter Tryz.func44, Tryz.ntmps44
  go_wp2_with (first | (go_at_call 43; refine (in_any _ _ _ _).mono ?_; rintro e w' ⟨rfl, rfl⟩) | (go_at_call 65; refine (quoteMay_any _ (by assumption) _).mono ?_; rintro e w' ⟨rfl, rfl⟩) | (go_at_call 10; refine (nameMay_any _ (by assumption) _).mono ?_; rintro e w' ⟨rfl, rfl⟩))
  go_loopw [7] (fun i wr => ∃ j : Nat, j ≤ xs.length ∧ i = .int .i64 j ∧ (∀ q (hq : q < xs.length), q < j → exFault xs[q] (d + 1) = 0) ∧ Below (w.heap.size + 1) (w.alloc (.cells #[.int .i64 6, .int .i64 0, .string f, .string s, .slice a xs.length cap] 52)) wr) (fun i _ => xs.length - (intOf i).toNat)
  case atStart => exact ⟨0, Nat.zero_le _, rfl, fun q _ h => absurd h (by omega), Below.refl _ _⟩
  case round =>
    obtain ⟨j, hj, rfl, hall, hbl⟩ := hrel
    have HA := veil hall
    clear hall
    have hc := fun o => hbl.cell (p := ⟨w.heap.size, o, none⟩) (by show w.heap.size < w.heap.size + 1; omega)
    have hbs : w.heap.size + 1 ≤ wr.heap.size := by have := hbl.size; simpa using this
    have HL := veil (HB.out.trans (hbl.mono (by omega)))
    have HBL := veil hbl
    clear hbl
    by_cases hlt : j < xs.length
    · rcases HREST.out with h0 | ⟨b, off, rfl, hb, hrow⟩
      · omega
      have hbw := hS b hb
      obtain ⟨kd, nu, fo, na, va, c0, c1, c2, c3, c4, hcs⟩ := exAt_cells.1 (hrow.get j hlt)
      obtain ⟨va1, va2, va3, rfl⟩ := hcs.slice
      have d0 := (HL.out.cell (p := ⟨b, off + j * 5, none⟩) hbw).trans c0
      have d1 := (HL.out.cell (p := ⟨b, off + j * 5 + 1, none⟩) hbw).trans c1
      have d2 := (HL.out.cell (p := ⟨b, off + j * 5 + 2, none⟩) hbw).trans c2
      have d3 := (HL.out.cell (p := ⟨b, off + j * 5 + 3, none⟩) hbw).trans c3
      have d4 := (HL.out.cell (p := ⟨b, off + j * 5 + 4, none⟩) hbw).trans c4
      have cI := HIH.out S xs[j] (.agg #[.int .i64 kd, .int .i64 nu, .string fo, .string na, .slice va1 va2 va3]) wr (fun b h => by have := hS b h; omega) ⟨_, _, _, _, _, rfl, hcs.keep (Keeps.below HL.out hS)⟩
      have en : ((d + 1 : Nat) : Int) = (d : Int) + 1 := by omega
      rw [en] at cI
      clear c0 c1 c2 c3 c4 hcs hrow HIH HREST
      by_cases hz : exFault xs[j] (d + 1) = 0
      · have hz' : (exFault xs[j] (d + 1) != 0) = false := by simp [hz]
        have HN : Hid (∀ q (hq : q < xs.length), q < j + 1 → exFault xs[q] (d + 1) = 0) := fun q hq hqj => by
          by_cases e : q = j
          · subst e; exact hz
          · exact HA.out q hq (by omega)
        clear hz HA
        generalize exFault xs[j] (d + 1) = fk at *
        go_wp2_with fail
        refine cI.mono ?_
        rintro e w' ⟨rfl, hb'⟩
        go_wp2_with fail
        exact ⟨⟨j + 1, by omega, by go_num, HN.out, HBL.out.trans (hb'.mono hbs)⟩, by simp [intOf]; omega⟩
      · have hz' : (exFault xs[j] (d + 1) != 0) = true := by simp [hz]
        have HFF := veil (HF.out.trans (firstBad_at (fun t => exFault t (d + 1)) xs j hlt (fun q hq => HA.out q (by omega) hq) hz))
        clear hz HA
        generalize exFault xs[j] (d + 1) = fk at *
        go_wp2_with fail
        refine cI.mono ?_
        rintro e w' ⟨rfl, hb'⟩
        go_wp2_with fail
        go_ret
        exact ⟨by rw [HFF.out]; rfl, HL.out.trans (hb'.mono (by omega))⟩
    · have HFF := veil (HF.out.trans (firstBad_none (fun t => exFault t (d + 1)) xs fun q hq => HA.out q hq (by omega)))
      clear HREST HIH
      go_wp2_with fail
      go_ret
      exact ⟨by rw [HFF.out]; rfl, HL.out⟩

set_option maxHeartbeats 8000000 in
set_option maxRecDepth 100000 in
theorem exprFault_k7 (d : Nat) (hd1 : d < 1000) (hd0 : ¬ 10 < d) (ih : ExprFaultAt (d + 1)) (S : Nat → Prop) (n : Int) (f s : ByteArray) (xs : List Ex) (a : Option Addr) (cap : Nat) (w : World) (_hf : f.size ≤ maxLen) (_hs : s.size ≤ maxLen) (hS : ∀ b, S b → b < w.heap.size)
    (h8 : ¬ 8 < xs.length) (hrest : xs.length = 0 ∨ ∃ b o, a = some ⟨b, o, none⟩ ∧ S b ∧ RowAt (ExAt S w) 5 xs b o) :
    Calls Tryz.prog 44 #[.agg #[.int .i64 7, .int .i64 n, .string f, .string s, .slice a xs.length cap], .int .i64 d] w fun e w' => e = .returned (.int .i64 (exFault (.mk 7 n f s xs) d)) ∧ Below w.heap.size w w' := by
  have HIH := veil ih
  have HREST := veil hrest
  clear ih hrest
  have hd' : ¬ (10 : Int) < (d : Int) := by omega
  have h8' : ¬ (8 : Int) < (xs.length : Int) := by omega
  have HB : Hid (Below w.heap.size w (w.alloc (.cells #[.int .i64 7, .int .i64 n, .string f, .string s, .slice a xs.length cap] 52))) := (Below.refl _ _).alloc (Nat.le_refl _) _
  have HT := veil (exFault_tail (n := n) (f := f) (s := s) hd0 (show isIn 7 1 7 = true from rfl) h8)
  have hin : isIn 7 1 7 = true := rfl
  have HNm : Hid (namesFit 7 f s = ((s.toList == []) && (f.toList == []))) := by show _ = _; rw [noneB_text, noneB_text]; rfl
  have HCt : Hid (countFits 7 xs.length = ((xs.length : Int) == 2)) := (len_eq xs.length 2).symm
  cases hA : (n != 0)
  case true =>
    have HF : Hid (exFault (.mk 7 n f s xs) d = 4) := by show _ = _; rw [HT.out, if_pos (Or.inl ⟨bne_iff_ne.1 hA, by decide⟩)]
    clear HT HNm HCt HIH HREST
    go_enter Tryz.func44, Tryz.ntmps44
    go_wp2_with (first | (go_at_call 43; refine (in_any _ _ _ _).mono ?_; rintro e w' ⟨rfl, rfl⟩) | (go_at_call 65; refine (quoteMay_any _ (by assumption) _).mono ?_; rintro e w' ⟨rfl, rfl⟩) | (go_at_call 10; refine (nameMay_any _ (by assumption) _).mono ?_; rintro e w' ⟨rfl, rfl⟩))
    go_ret
    exact ⟨by rw [HF.out]; rfl, HB.out⟩
  have hn : n = 0 := by
    by_cases h : n = 0
    · exact h
    · rw [bne_iff_ne.2 h] at hA; cases hA
  subst hn
  clear hA
  cases hF : (f.toList == [])
  case false =>
    have HF : Hid (exFault (.mk 7 0 f s xs) d = 4) := by show _ = _; rw [HT.out, if_pos (Or.inr (Or.inl (HNm.out.trans (by rw [hF]; simp))))]
    clear HT HNm HCt HIH HREST
    go_enter Tryz.func44, Tryz.ntmps44
    go_wp2_with (first | (go_at_call 43; refine (in_any _ _ _ _).mono ?_; rintro e w' ⟨rfl, rfl⟩) | (go_at_call 65; refine (quoteMay_any _ (by assumption) _).mono ?_; rintro e w' ⟨rfl, rfl⟩) | (go_at_call 10; refine (nameMay_any _ (by assumption) _).mono ?_; rintro e w' ⟨rfl, rfl⟩))
    go_ret
    exact ⟨by rw [HF.out]; rfl, HB.out⟩
  cases hS0 : (s.toList == [])
  case false =>
    have HF : Hid (exFault (.mk 7 0 f s xs) d = 4) := by show _ = _; rw [HT.out, if_pos (Or.inr (Or.inl (HNm.out.trans (by rw [hS0]; simp))))]
    clear HT HNm HCt HIH HREST
    go_enter Tryz.func44, Tryz.ntmps44
    go_wp2_with (first | (go_at_call 43; refine (in_any _ _ _ _).mono ?_; rintro e w' ⟨rfl, rfl⟩) | (go_at_call 65; refine (quoteMay_any _ (by assumption) _).mono ?_; rintro e w' ⟨rfl, rfl⟩) | (go_at_call 10; refine (nameMay_any _ (by assumption) _).mono ?_; rintro e w' ⟨rfl, rfl⟩))
    go_ret
    exact ⟨by rw [HF.out]; rfl, HB.out⟩
  cases hC : ((xs.length : Int) == 2)
  case false =>
    have HF : Hid (exFault (.mk 7 0 f s xs) d = 4) := by show _ = _; rw [HT.out, if_pos (Or.inr (Or.inr (HCt.out.trans hC)))]
    clear HT HNm HCt HIH HREST
    go_enter Tryz.func44, Tryz.ntmps44
    go_wp2_with (first | (go_at_call 43; refine (in_any _ _ _ _).mono ?_; rintro e w' ⟨rfl, rfl⟩) | (go_at_call 65; refine (quoteMay_any _ (by assumption) _).mono ?_; rintro e w' ⟨rfl, rfl⟩) | (go_at_call 10; refine (nameMay_any _ (by assumption) _).mono ?_; rintro e w' ⟨rfl, rfl⟩))
    go_ret
    exact ⟨by rw [HF.out]; rfl, HB.out⟩
  have HF : Hid (exFault (.mk 7 0 f s xs) d = firstBad (fun t => exFault t (d + 1)) xs) := by
    show _ = _
    rw [HT.out, if_neg, if_neg (by rw [show isIn 0 0 999999 = true from rfl]; simp), exsFault_first]
    rintro (h | h | h)
    · exact h.1 rfl
    · rw [HNm.out, hS0, hF] at h; cases h
    · rw [HCt.out, hC] at h; cases h
  clear HT HNm HCt

  go_enter Tryz.func44, Tryz.ntmps44
  go_wp2_with (first | (go_at_call 43; refine (in_any _ _ _ _).mono ?_; rintro e w' ⟨rfl, rfl⟩) | (go_at_call 65; refine (quoteMay_any _ (by assumption) _).mono ?_; rintro e w' ⟨rfl, rfl⟩) | (go_at_call 10; refine (nameMay_any _ (by assumption) _).mono ?_; rintro e w' ⟨rfl, rfl⟩))
  go_loopw [7] (fun i wr => ∃ j : Nat, j ≤ xs.length ∧ i = .int .i64 j ∧ (∀ q (hq : q < xs.length), q < j → exFault xs[q] (d + 1) = 0) ∧ Below (w.heap.size + 1) (w.alloc (.cells #[.int .i64 7, .int .i64 0, .string f, .string s, .slice a xs.length cap] 52)) wr) (fun i _ => xs.length - (intOf i).toNat)
  case atStart => exact ⟨0, Nat.zero_le _, rfl, fun q _ h => absurd h (by omega), Below.refl _ _⟩
  case round =>
    obtain ⟨j, hj, rfl, hall, hbl⟩ := hrel
    have HA := veil hall
    clear hall
    have hc := fun o => hbl.cell (p := ⟨w.heap.size, o, none⟩) (by show w.heap.size < w.heap.size + 1; omega)
    have hbs : w.heap.size + 1 ≤ wr.heap.size := by have := hbl.size; simpa using this
    have HL := veil (HB.out.trans (hbl.mono (by omega)))
    have HBL := veil hbl
    clear hbl
    by_cases hlt : j < xs.length
    · rcases HREST.out with h0 | ⟨b, off, rfl, hb, hrow⟩
      · omega
      have hbw := hS b hb
      obtain ⟨kd, nu, fo, na, va, c0, c1, c2, c3, c4, hcs⟩ := exAt_cells.1 (hrow.get j hlt)
      obtain ⟨va1, va2, va3, rfl⟩ := hcs.slice
      have d0 := (HL.out.cell (p := ⟨b, off + j * 5, none⟩) hbw).trans c0
      have d1 := (HL.out.cell (p := ⟨b, off + j * 5 + 1, none⟩) hbw).trans c1
      have d2 := (HL.out.cell (p := ⟨b, off + j * 5 + 2, none⟩) hbw).trans c2
      have d3 := (HL.out.cell (p := ⟨b, off + j * 5 + 3, none⟩) hbw).trans c3
      have d4 := (HL.out.cell (p := ⟨b, off + j * 5 + 4, none⟩) hbw).trans c4
      have cI := HIH.out S xs[j] (.agg #[.int .i64 kd, .int .i64 nu, .string fo, .string na, .slice va1 va2 va3]) wr (fun b h => by have := hS b h; omega) ⟨_, _, _, _, _, rfl, hcs.keep (Keeps.below HL.out hS)⟩
      have en : ((d + 1 : Nat) : Int) = (d : Int) + 1 := by omega
      rw [en] at cI
      clear c0 c1 c2 c3 c4 hcs hrow HIH HREST
      by_cases hz : exFault xs[j] (d + 1) = 0
      · have hz' : (exFault xs[j] (d + 1) != 0) = false := by simp [hz]
        have HN : Hid (∀ q (hq : q < xs.length), q < j + 1 → exFault xs[q] (d + 1) = 0) := fun q hq hqj => by
          by_cases e : q = j
          · subst e; exact hz
          · exact HA.out q hq (by omega)
        clear hz HA
        generalize exFault xs[j] (d + 1) = fk at *
        go_wp2_with fail
        refine cI.mono ?_
        rintro e w' ⟨rfl, hb'⟩
        go_wp2_with fail
        exact ⟨⟨j + 1, by omega, by go_num, HN.out, HBL.out.trans (hb'.mono hbs)⟩, by simp [intOf]; omega⟩
      · have hz' : (exFault xs[j] (d + 1) != 0) = true := by simp [hz]
        have HFF := veil (HF.out.trans (firstBad_at (fun t => exFault t (d + 1)) xs j hlt (fun q hq => HA.out q (by omega) hq) hz))
        clear hz HA
        generalize exFault xs[j] (d + 1) = fk at *
        go_wp2_with fail
        refine cI.mono ?_
        rintro e w' ⟨rfl, hb'⟩
        go_wp2_with fail
        go_ret
        exact ⟨by rw [HFF.out]; rfl, HL.out.trans (hb'.mono (by omega))⟩
    · have HFF := veil (HF.out.trans (firstBad_none (fun t => exFault t (d + 1)) xs fun q hq => HA.out q hq (by omega)))
      clear HREST HIH
      go_wp2_with fail
      go_ret
      exact ⟨by rw [HFF.out]; rfl, HL.out⟩

theorem exprFault_any : ∀ (m d : Nat), 10 < d + m → d < 1000 → ExprFaultAt d := by
  intro m
  induction m with
  | zero =>
    rintro d hd hd1 S t v w hS ⟨k, n, f, s, va, rfl, xs, rfl, hf, hs, hsl⟩
    have hd' : (10 : Int) < (d : Int) := by omega
    have HF : Hid (exFault (.mk k n f s xs) d = 1) := by show _ = _; rw [exFault, if_pos (by omega)]
    obtain ⟨a, c, cap, rfl⟩ := hsl.slice
    clear hsl
    go_enter Tryz.func44, Tryz.ntmps44
    go_wp2_with fail
    go_ret
    exact ⟨by rw [HF.out]; rfl, (Below.refl _ _).alloc (Nat.le_refl _) _⟩
  | succ m ih =>
    rintro d hd hd1 S t v w hS ⟨k, n, f, s, va, rfl, xs, rfl, hf, hs, hsl⟩
    have HIH := veil ih
    clear ih
    by_cases hd0 : 10 < d
    · have hd' : (10 : Int) < (d : Int) := by omega
      have HF : Hid (exFault (.mk k n f s xs) d = 1) := by show _ = _; rw [exFault, if_pos (by omega)]
      obtain ⟨a, c, cap, rfl⟩ := hsl.slice
      clear hsl
      go_enter Tryz.func44, Tryz.ntmps44
      go_wp2_with fail
      go_ret
      exact ⟨by rw [HF.out]; rfl, (Below.refl _ _).alloc (Nat.le_refl _) _⟩
    have hd' : ¬ (10 : Int) < (d : Int) := by omega
    obtain ⟨a, cap, rfl, ⟨hlen, hlenC⟩, hrest⟩ := hsl
    have hlen' := hlen
    unfold maxLen at hlen
    cases hk : isIn k 1 7
    · have HF : Hid (exFault (.mk k n f s xs) d = 3) := by show _ = _; rw [exFault, if_neg hd0, if_pos hk]
      clear hrest HIH
      go_enter Tryz.func44, Tryz.ntmps44
      go_wp2_with (go_at_call 43; refine (in_any _ _ _ _).mono ?_; rintro e w' ⟨rfl, rfl⟩)
      go_ret
      exact ⟨by rw [HF.out]; rfl, (Below.refl _ _).alloc (Nat.le_refl _) _⟩
    by_cases h8 : 8 < xs.length
    · have HF : Hid (exFault (.mk k n f s xs) d = 1) := by show _ = _; rw [exFault, if_neg hd0, if_neg (by rw [hk]; simp), if_pos h8]
      have h8' : (8 : Int) < (xs.length : Int) := by omega
      clear hrest HIH
      go_enter Tryz.func44, Tryz.ntmps44
      go_wp2_with (go_at_call 43; refine (in_any _ _ _ _).mono ?_; rintro e w' ⟨rfl, rfl⟩)
      go_ret
      exact ⟨by rw [HF.out]; rfl, (Below.refl _ _).alloc (Nat.le_refl _) _⟩
    have hI := HIH.out (d + 1) (by omega) (by omega)
    have hk7 : k = 1 ∨ k = 2 ∨ k = 3 ∨ k = 4 ∨ k = 5 ∨ k = 6 ∨ k = 7 := by simp [isIn] at hk; omega
    rcases hk7 with rfl | rfl | rfl | rfl | rfl | rfl | rfl
    · exact exprFault_k1 d hd1 hd0 hI S n f s xs a cap w hf hs hS h8 hrest
    · exact exprFault_k2 d hd1 hd0 hI S n f s xs a cap w hf hs hS h8 hrest
    · exact exprFault_k3 d hd1 hd0 hI S n f s xs a cap w hf hs hS h8 hrest
    · exact exprFault_k4 d hd1 hd0 hI S n f s xs a cap w hf hs hS h8 hrest
    · exact exprFault_k5 d hd1 hd0 hI S n f s xs a cap w hf hs hS h8 hrest
    · exact exprFault_k6 d hd1 hd0 hI S n f s xs a cap w hf hs hS h8 hrest
    · exact exprFault_k7 d hd1 hd0 hI S n f s xs a cap w hf hs hS h8 hrest

end Go.Proofs.YtcpnfkeoajeodaaGreatDoor

/- What the reference's funcFault and ModuleFault answer, at every function and module: the first fault. -/
namespace Go.Proofs.YtcpnfkeoajeodaaGreatDoor
open Go.RowKit
set_option maxRecDepth 100000

set_option maxHeartbeats 8000000 in
set_option maxRecDepth 100000 in
theorem funcFault_any (S : Nat → Prop) (x : Fu) (v : Value) (w : World) (hS : ∀ b, S b → b < w.heap.size) (hx : FuIs S w x v) :
    Calls Tryz.prog 20 #[v] w fun e w' => e = .returned (.int .i64 (fuFault x)) ∧ Below w.heap.size w w' := by
  obtain ⟨vp, k, f, n, va, k', n', f', s', va', rfl, hsz, hsz1, hps, hcs, hce⟩ := hx
  obtain ⟨va1, va2, va3, rfl⟩ := hcs.slice
  obtain ⟨ve1, ve2, ve3, rfl⟩ := hce.slice
  obtain ⟨vp1, vp3, rfl, ⟨hplen, hplenC⟩, hprest⟩ := hps
  unfold maxLen at hplen
  have HREST := veil hprest
  have HC := veil hcs
  have HE := veil hce
  clear hcs hce hprest
  have HT : Hid (fuFault x = if identOk x.name = false ∨ noneOrIdent x.var = false then 4 else if 8 < x.params.length then 1 else
    if firstBad fdFault x.params ≠ 0 then firstBad fdFault x.params else if tyFault x.result 1 ≠ 0 then tyFault x.result 1 else exFault x.body 1) := rfl
  have HV : Hid (noneOrIdent x.var = ((x.var.toList == []) || identOk x.var)) := by show _ = _; rw [noneB_text]; rfl
  have HB : Hid (Below w.heap.size w (w.alloc (.cells #[.string x.name, .string x.var, .slice vp1 x.params.length vp3, .int .i64 k, .string f, .string n, .slice va1 va2 va3, .int .i64 k', .int .i64 n', .string f', .string s', .slice ve1 ve2 ve3] 54))) := (Below.refl _ _).alloc (Nat.le_refl _) _
  cases h : identOk x.name
  · rw [if_pos (Or.inl h)] at HT
    go_enter Tryz.func20, Tryz.ntmps20
    go_wp2_with fail
    refine (nameMay_any x.name hsz _).mono ?_
    rintro e w1 ⟨rfl, rfl⟩
    rw [h]
    go_wp2_with fail
    go_ret
    exact ⟨by rw [HT.out]; rfl, HB.out⟩
  have hvar : ((x.var.toList == []) = false ∧ identOk x.var = false) ∨ (noneOrIdent x.var = true ∧ ((x.var.toList == []) = true ∨ ((x.var.toList == []) = false ∧ identOk x.var = true))) := by
    rw [HV.out]
    cases (x.var.toList == []) <;> cases identOk x.var <;> simp
  rcases hvar with ⟨hv1, hv2⟩ | ⟨hv0, hvar⟩
  · rw [if_pos (Or.inr (HV.out.trans (by rw [hv1, hv2]; rfl)))] at HT
    go_enter Tryz.func20, Tryz.ntmps20
    go_wp2_with fail
    refine (nameMay_any x.name hsz _).mono ?_
    rintro e w1 ⟨rfl, rfl⟩
    rw [h]
    go_wp2_with fail
    refine (nameMay_any x.var hsz1 _).mono ?_
    rintro e w1 ⟨rfl, rfl⟩
    rw [hv2]
    go_wp2_with fail
    go_ret
    exact ⟨by rw [HT.out]; rfl, HB.out⟩
  rw [if_neg (by rw [h, hv0]; simp)] at HT
  clear HV hv0
  by_cases h8 : 8 < x.params.length
  · rw [if_pos h8] at HT
    have h8' : (8 : Int) < (x.params.length : Int) := by omega
    rcases hvar with hv | ⟨hv1, hv2⟩
    all_goals
      go_enter Tryz.func20, Tryz.ntmps20
      go_wp2_with fail
      refine (nameMay_any x.name hsz _).mono ?_
      rintro e w1 ⟨rfl, rfl⟩
      rw [h]
      go_wp2_with (go_at_call 10; refine (nameMay_any _ hsz1 _).mono ?_; rintro e w' ⟨rfl, rfl⟩)
      go_ret
      exact ⟨by rw [HT.out]; rfl, HB.out⟩
  have h8' : ¬ (8 : Int) < (x.params.length : Int) := by omega
  rw [if_neg h8] at HT
  clear h8
  rcases hvar with hv | ⟨hv1, hv2⟩
  all_goals
    go_enter Tryz.func20, Tryz.ntmps20
    go_wp2_with fail
    refine (nameMay_any x.name hsz _).mono ?_
    rintro e w1 ⟨rfl, rfl⟩
    rw [h]
    go_wp2_with (go_at_call 10; refine (nameMay_any _ hsz1 _).mono ?_; rintro e w' ⟨rfl, rfl⟩)
    go_loopw [3] (fun i wr => ∃ j : Nat, j ≤ x.params.length ∧ i = .int .i64 j ∧ (∀ q (hq : q < x.params.length), q < j → fdFault x.params[q] = 0) ∧ Below (w.heap.size + 1) (w.alloc (.cells #[.string x.name, .string x.var, .slice vp1 x.params.length vp3, .int .i64 k, .string f, .string n, .slice va1 va2 va3, .int .i64 k', .int .i64 n', .string f', .string s', .slice ve1 ve2 ve3] 54)) wr) (fun i _ => x.params.length - (intOf i).toNat)
    case atStart => exact ⟨0, Nat.zero_le _, rfl, fun q _ h => absurd h (by omega), Below.refl _ _⟩
    case round =>
      obtain ⟨j, hj, rfl, hall, hbl⟩ := hrel
      have HA := veil hall
      clear hall
      have hc := fun o => hbl.cell (p := ⟨w.heap.size, o, none⟩) (by show w.heap.size < w.heap.size + 1; omega)
      have hbs : w.heap.size + 1 ≤ wr.heap.size := by have := hbl.size; simpa using this
      have HL := veil (HB.out.trans (hbl.mono (by omega)))
      have HBL := veil hbl
      clear hbl
      by_cases hlt : j < x.params.length
      · rcases HREST.out with h0 | ⟨b, off, rfl, hb, hrow⟩
        · omega
        have hbw := hS b hb
        obtain ⟨⟨c0, hfs⟩, hty⟩ := hrow.get j hlt
        obtain ⟨kd, fo, na, va, c1, c2, c3, c4, hcs⟩ := tyAt_cells.1 hty
        obtain ⟨vb1, vb2, vb3, rfl⟩ := hcs.slice
        rw [Nat.add_assoc] at c2 c3 c4
        have d0 := (HL.out.cell (p := ⟨b, off + j * 5, none⟩) hbw).trans c0
        have d1 := (HL.out.cell (p := ⟨b, off + j * 5 + 1, none⟩) hbw).trans c1
        have d2 := (HL.out.cell (p := ⟨b, off + j * 5 + 2, none⟩) hbw).trans c2
        have d3 := (HL.out.cell (p := ⟨b, off + j * 5 + 3, none⟩) hbw).trans c3
        have d4 := (HL.out.cell (p := ⟨b, off + j * 5 + 4, none⟩) hbw).trans c4
        have cI := typeFault_any 10 1 (by omega) S x.params[j].is (.agg #[.int .i64 kd, .string fo, .string na, .slice vb1 vb2 vb3]) wr (by omega) (fun b h => by have := hS b h; omega) ⟨_, _, _, _, rfl, hcs.keep (Keeps.below HL.out hS)⟩
        have HFd : Hid (fdFault x.params[j] = if identOk x.params[j].name = true then tyFault x.params[j].is 1 else 4) := rfl
        have HAt := veil (fun h0 => firstBad_at fdFault x.params j hlt (fun q hq => HA.out q (by omega) hq) h0)
        have HNx : Hid (fdFault x.params[j] = 0 → ∀ q (hq : q < x.params.length), q < j + 1 → fdFault x.params[q] = 0) := fun hz q hq hqj => by
          by_cases e : q = j
          · subst e; exact hz
          · exact HA.out q hq (by omega)
        clear c0 c1 c2 c3 c4 hcs hrow HREST hty HA
        have e1 : ((1 : Nat) : Int) = 1 := rfl
        rw [e1] at cI
        generalize x.params[j] = pj at *
        cases hi : identOk pj.name
        · rw [if_neg (by rw [hi]; simp)] at HFd
          have HFF := veil (HAt.out (by rw [HFd.out]; decide))
          rw [HFF.out, HFd.out, if_pos (by decide)] at HT
          clear cI HAt HNx HFF
          go_wp2_with fail
          refine (nameMay_any pj.name hfs _).mono ?_
          rintro e w' ⟨rfl, rfl⟩
          rw [hi]
          go_wp2_with fail
          go_ret
          exact ⟨by rw [HT.out]; rfl, HL.out⟩
        rw [if_pos hi] at HFd
        by_cases hz : tyFault pj.is 1 = 0
        · have hz' : (tyFault pj.is 1 != 0) = false := by rw [hz]; rfl
          have HN := veil (HNx.out (HFd.out.trans hz))
          clear HAt HNx hz
          go_wp2_with fail
          refine (nameMay_any pj.name hfs _).mono ?_
          rintro e w' ⟨rfl, rfl⟩
          rw [hi]
          go_wp2_with fail
          refine cI.mono ?_
          rintro e w' ⟨rfl, hb'⟩
          go_wp2_with fail
          exact ⟨⟨j + 1, by omega, by go_num, HN.out, HBL.out.trans (hb'.mono hbs)⟩, by simp [intOf]; omega⟩
        · have hz' : (tyFault pj.is 1 != 0) = true := bne_iff_ne.2 hz
          have HFF := veil (HAt.out (by rw [HFd.out]; exact hz))
          rw [HFF.out, HFd.out, if_pos hz] at HT
          clear HAt HNx hz HFF
          go_wp2_with fail
          refine (nameMay_any pj.name hfs _).mono ?_
          rintro e w' ⟨rfl, rfl⟩
          rw [hi]
          go_wp2_with fail
          refine cI.mono ?_
          rintro e w' ⟨rfl, hb'⟩
          go_wp2_with fail
          go_ret
          exact ⟨by rw [HT.out]; rfl, HL.out.trans (hb'.mono (by omega))⟩
      · have HFF := veil (firstBad_none fdFault x.params fun q hq => HA.out q hq (by omega))
        rw [HFF.out, if_neg (by simp)] at HT
        clear HREST HFF HA
        have e1 : ((1 : Nat) : Int) = 1 := rfl
        have cT := typeFault_any 10 1 (by omega) S x.result (.agg #[.int .i64 k, .string f, .string n, .slice va1 va2 va3]) wr (by omega) (fun b h => by have := hS b h; omega) ⟨_, _, _, _, rfl, HC.out.keep (Keeps.below HL.out hS)⟩
        rw [e1] at cT
        by_cases hz : tyFault x.result 1 = 0
        · have hz' : (tyFault x.result 1 == 0) = true := by rw [hz]; rfl
          rw [if_neg (by rw [hz]; simp)] at HT
          clear hz
          go_wp2_with fail
          refine cT.mono ?_
          rintro e w2 ⟨rfl, hb2⟩
          have hc2 := fun o => (hb2.cell (p := ⟨w.heap.size, o, none⟩) (by show w.heap.size < wr.heap.size; omega)).trans (hc o)
          have HL2 := veil (HL.out.trans (hb2.mono (by omega)))
          clear hb2 hc
          have cE := exprFault_any 10 1 (by omega) (by omega) S x.body (.agg #[.int .i64 k', .int .i64 n', .string f', .string s', .slice ve1 ve2 ve3]) w2 (fdIs_first hS HL2.out) ⟨_, _, _, _, _, rfl, HE.out.keep (Keeps.below HL2.out hS)⟩
          rw [e1] at cE
          go_wp2_with fail
          refine cE.mono ?_
          rintro e w3 ⟨rfl, hb3⟩
          go_wp2_with fail
          go_ret
          exact ⟨by rw [HT.out]; rfl, HL2.out.trans (hb3.mono HL2.out.size)⟩
        · have hz' : (tyFault x.result 1 == 0) = false := beq_eq_false_iff_ne.2 hz
          rw [if_pos hz] at HT
          clear hz
          go_wp2_with fail
          refine cT.mono ?_
          rintro e w2 ⟨rfl, hb2⟩
          go_wp2_with fail
          go_ret
          exact ⟨by rw [HT.out]; rfl, HL.out.trans (hb2.mono (by omega))⟩

set_option maxHeartbeats 8000000 in
set_option maxRecDepth 100000 in
theorem moduleFault_any (S : Nat → Prop) (x : Mo) (v : Value) (w : World) (hS : ∀ b, S b → b < w.heap.size) (hx : MoIs S w x v) :
    Calls Tryz.prog 8 #[v] w fun e w' => e = .returned (.int .i64 (moFault x)) ∧ Below w.heap.size w w' := by
  obtain ⟨vu, vt, vf, rfl, hu, ht, hf⟩ := hx
  obtain ⟨u1, u3, rfl, ⟨hul, hulC⟩, hur⟩ := hu
  obtain ⟨t1, t3, rfl, ⟨htl, htlC⟩, htr⟩ := ht
  obtain ⟨f1, f3, rfl, ⟨hfl, hflC⟩, hfr⟩ := hf
  have HR3 := veil hur
  have HR4 := veil htr
  have HR6 := veil hfr
  clear hur htr hfr
  have HT : Hid (moFault x = if 24 < wrap64 (wrap64 ((x.uses.length : Int) + x.types.length) + x.funcs.length) then 1 else
    if firstBad useFault x.uses ≠ 0 then firstBad useFault x.uses else if firstBad fdFault x.types ≠ 0 then firstBad fdFault x.types else firstBad fuFault x.funcs) := rfl
  have HB : Hid (Below w.heap.size w (w.alloc (.cells #[.slice u1 x.uses.length u3, .slice t1 x.types.length t3, .slice f1 x.funcs.length f3] 26))) := (Below.refl _ _).alloc (Nat.le_refl _) _
  by_cases h24 : 24 < wrap64 (wrap64 ((x.uses.length : Int) + x.types.length) + x.funcs.length)
  · rw [if_pos h24] at HT
    clear hul htl hfl
    go_enter Tryz.func8, Tryz.ntmps8
    go_wp2_with fail
    go_ret
    exact ⟨by rw [HT.out]; rfl, HB.out⟩
  rw [if_neg h24] at HT
  have HUL := veil hul
  have HTL := veil htl
  have HFL := veil hfl
  clear hul htl hfl
  go_enter Tryz.func8, Tryz.ntmps8
  go_wp2_with fail
  have hul := HUL.out
  have htl := HTL.out
  have hfl := HFL.out
  unfold maxLen at hul htl hfl
  go_loopw [3] (fun i wr => ∃ j : Nat, j ≤ x.uses.length ∧ i = .int .i64 j ∧ (∀ q (hq : q < x.uses.length), q < j → useFault x.uses[q] = 0) ∧ Below (w.heap.size + 1) (w.alloc (.cells #[.slice u1 x.uses.length u3, .slice t1 x.types.length t3, .slice f1 x.funcs.length f3] 26)) wr) (fun i _ => x.uses.length - (intOf i).toNat)
  case atStart => exact ⟨0, Nat.zero_le _, rfl, fun q _ h => absurd h (by omega), Below.refl _ _⟩
  case round =>
    obtain ⟨j, hj, rfl, hall, hbl⟩ := hrel
    have HA := veil hall
    clear hall
    have hc := fun o => hbl.cell (p := ⟨w.heap.size, o, none⟩) (by show w.heap.size < w.heap.size + 1; omega)
    have hbs : w.heap.size + 1 ≤ wr.heap.size := by have := hbl.size; simpa using this
    have HL := veil (HB.out.trans (hbl.mono (by omega)))
    have HBL := veil hbl
    clear hbl
    by_cases hlt : j < x.uses.length
    · rcases HR3.out with h0 | ⟨b, off, rfl, hb, hrow⟩
      · omega
      have hbw := hS b hb
      have HAt := veil (fun h0 => firstBad_at useFault x.uses j hlt (fun q hq => HA.out q (by omega) hq) h0)
      have HNx : Hid (useFault x.uses[j] = 0 → ∀ q (hq : q < x.uses.length), q < j + 1 → useFault x.uses[q] = 0) := fun hz q hq hqj => by
        by_cases e : q = j
        · subst e; exact hz
        · exact HA.out q hq (by omega)
      obtain ⟨c0, hfs⟩ := hrow.get j hlt
      rw [Nat.mul_one] at c0
      have d0 := (HL.out.cell (p := ⟨b, off + j, none⟩) hbw).trans c0
      have HFd : Hid (useFault x.uses[j] = if identOk x.uses[j] = true then 0 else 4) := rfl
      clear c0 hrow HA
      generalize x.uses[j] = pj at *
      cases hi : identOk pj
      · rw [if_neg (by rw [hi]; simp)] at HFd
        have HFF := veil (HAt.out (by rw [HFd.out]; decide))
        rw [HFF.out, HFd.out, if_pos (by decide)] at HT
        clear HAt HNx HFF
        go_wp2_with fail
        refine (nameMay_any pj hfs _).mono ?_
        rintro e w' ⟨rfl, rfl⟩
        rw [hi]
        go_wp2_with fail
        go_ret
        exact ⟨by rw [HT.out]; rfl, HL.out⟩
      · rw [if_pos hi] at HFd
        have HN := veil (HNx.out HFd.out)
        clear HAt HNx
        go_wp2_with fail
        refine (nameMay_any pj hfs _).mono ?_
        rintro e w' ⟨rfl, rfl⟩
        rw [hi]
        go_wp2_with fail
        exact ⟨⟨j + 1, by omega, by go_num, HN.out, HBL.out⟩, by simp [intOf]; omega⟩
    · have HFF := veil (firstBad_none useFault x.uses fun q hq => HA.out q hq (by omega))
      rw [HFF.out, if_neg (by simp)] at HT
      clear HFF HA HR3
      go_wp2_with fail
      go_loopw [4] (fun i wr => ∃ j : Nat, j ≤ x.types.length ∧ i = .int .i64 j ∧ (∀ q (hq : q < x.types.length), q < j → fdFault x.types[q] = 0) ∧ Below (w.heap.size + 1) (w.alloc (.cells #[.slice u1 x.uses.length u3, .slice t1 x.types.length t3, .slice f1 x.funcs.length f3] 26)) wr) (fun i _ => x.types.length - (intOf i).toNat)
      case atStart => exact ⟨0, Nat.zero_le _, rfl, fun q _ h => absurd h (by omega), HBL.out⟩
      case round =>
        clear hc hbs hlt HL
        obtain ⟨j, hj, rfl, hall, hbl⟩ := hrel
        have HA := veil hall
        clear hall
        have hc := fun o => hbl.cell (p := ⟨w.heap.size, o, none⟩) (by show w.heap.size < w.heap.size + 1; omega)
        have hbs : w.heap.size + 1 ≤ wr.heap.size := by have := hbl.size; simpa using this
        have HL := veil (HB.out.trans (hbl.mono (by omega)))
        have HBL := veil hbl
        clear hbl
        by_cases hlt : j < x.types.length
        · rcases HR4.out with h0 | ⟨b, off, rfl, hb, hrow⟩
          · omega
          have hbw := hS b hb
          have HAt := veil (fun h0 => firstBad_at fdFault x.types j hlt (fun q hq => HA.out q (by omega) hq) h0)
          have HNx : Hid (fdFault x.types[j] = 0 → ∀ q (hq : q < x.types.length), q < j + 1 → fdFault x.types[q] = 0) := fun hz q hq hqj => by
            by_cases e : q = j
            · subst e; exact hz
            · exact HA.out q hq (by omega)
          obtain ⟨⟨c0, hfs⟩, hty⟩ := hrow.get j hlt
          obtain ⟨kd, fo, na, va, c1, c2, c3, c4, hcs⟩ := tyAt_cells.1 hty
          obtain ⟨vb1, vb2, vb3, rfl⟩ := hcs.slice
          rw [Nat.add_assoc] at c2 c3 c4
          have d0 := (HL.out.cell (p := ⟨b, off + j * 5, none⟩) hbw).trans c0
          have d1 := (HL.out.cell (p := ⟨b, off + j * 5 + 1, none⟩) hbw).trans c1
          have d2 := (HL.out.cell (p := ⟨b, off + j * 5 + 2, none⟩) hbw).trans c2
          have d3 := (HL.out.cell (p := ⟨b, off + j * 5 + 3, none⟩) hbw).trans c3
          have d4 := (HL.out.cell (p := ⟨b, off + j * 5 + 4, none⟩) hbw).trans c4
          have cI := typeFault_any 10 1 (by omega) S x.types[j].is (.agg #[.int .i64 kd, .string fo, .string na, .slice vb1 vb2 vb3]) wr (by omega) (fun b h => by have := hS b h; omega) ⟨_, _, _, _, rfl, hcs.keep (Keeps.below HL.out hS)⟩
          have HFd : Hid (fdFault x.types[j] = if identOk x.types[j].name = true then tyFault x.types[j].is 1 else 4) := rfl
          clear c0 c1 c2 c3 c4 hcs hrow hty HA
          have e1 : ((1 : Nat) : Int) = 1 := rfl
          rw [e1] at cI
          generalize x.types[j] = pj at *
          cases hi : identOk pj.name
          · rw [if_neg (by rw [hi]; simp)] at HFd
            have HFF := veil (HAt.out (by rw [HFd.out]; decide))
            rw [HFF.out, HFd.out, if_pos (by decide)] at HT
            clear cI HAt HNx HFF
            go_wp2_with fail
            refine (nameMay_any pj.name hfs _).mono ?_
            rintro e w' ⟨rfl, rfl⟩
            rw [hi]
            go_wp2_with fail
            go_ret
            exact ⟨by rw [HT.out]; rfl, HL.out⟩
          rw [if_pos hi] at HFd
          by_cases hz : tyFault pj.is 1 = 0
          · have hz' : (tyFault pj.is 1 != 0) = false := by rw [hz]; rfl
            have HN := veil (HNx.out (HFd.out.trans hz))
            clear HAt HNx hz
            go_wp2_with fail
            refine (nameMay_any pj.name hfs _).mono ?_
            rintro e w' ⟨rfl, rfl⟩
            rw [hi]
            go_wp2_with fail
            refine cI.mono ?_
            rintro e w' ⟨rfl, hb'⟩
            go_wp2_with fail
            exact ⟨⟨j + 1, by omega, by go_num, HN.out, HBL.out.trans (hb'.mono hbs)⟩, by simp [intOf]; omega⟩
          · have hz' : (tyFault pj.is 1 != 0) = true := bne_iff_ne.2 hz
            have HFF := veil (HAt.out (by rw [HFd.out]; exact hz))
            rw [HFF.out, HFd.out, if_pos hz] at HT
            clear HAt HNx hz HFF
            go_wp2_with fail
            refine (nameMay_any pj.name hfs _).mono ?_
            rintro e w' ⟨rfl, rfl⟩
            rw [hi]
            go_wp2_with fail
            refine cI.mono ?_
            rintro e w' ⟨rfl, hb'⟩
            go_wp2_with fail
            go_ret
            exact ⟨by rw [HT.out]; rfl, HL.out.trans (hb'.mono (by omega))⟩
        · have HFF := veil (firstBad_none fdFault x.types fun q hq => HA.out q hq (by omega))
          rw [HFF.out, if_neg (by simp)] at HT
          clear HFF HA HR4
          go_wp2_with fail
          go_loopw [6] (fun i wr => ∃ j : Nat, j ≤ x.funcs.length ∧ i = .int .i64 j ∧ (∀ q (hq : q < x.funcs.length), q < j → fuFault x.funcs[q] = 0) ∧ Below (w.heap.size + 1) (w.alloc (.cells #[.slice u1 x.uses.length u3, .slice t1 x.types.length t3, .slice f1 x.funcs.length f3] 26)) wr) (fun i _ => x.funcs.length - (intOf i).toNat)
          case atStart => exact ⟨0, Nat.zero_le _, rfl, fun q _ h => absurd h (by omega), HBL.out⟩
          case round =>
            clear hc hbs hlt HL
            obtain ⟨j, hj, rfl, hall, hbl⟩ := hrel
            have HA := veil hall
            clear hall
            have hc := fun o => hbl.cell (p := ⟨w.heap.size, o, none⟩) (by show w.heap.size < w.heap.size + 1; omega)
            have hbs : w.heap.size + 1 ≤ wr.heap.size := by have := hbl.size; simpa using this
            have HL := veil (HB.out.trans (hbl.mono (by omega)))
            have HBL := veil hbl
            clear hbl
            by_cases hlt : j < x.funcs.length
            · rcases HR6.out with h0 | ⟨b, off, rfl, hb, hrow⟩
              · omega
              have hbw := hS b hb
              have HAt := veil (fun h0 => firstBad_at fuFault x.funcs j hlt (fun q hq => HA.out q (by omega) hq) h0)
              have HNx : Hid (fuFault x.funcs[j] = 0 → ∀ q (hq : q < x.funcs.length), q < j + 1 → fuFault x.funcs[q] = 0) := fun hz q hq hqj => by
                by_cases e : q = j
                · subst e; exact hz
                · exact HA.out q hq (by omega)
              obtain ⟨⟨c0, hsz⟩, ⟨c1, hsz1⟩, ⟨vp, c2, hps⟩, hty, hex⟩ := hrow.get j hlt
              obtain ⟨kd, fo, na, va, c3, c4, c5, c6, hcs⟩ := tyAt_cells.1 hty
              obtain ⟨ke, ne, fe, se, ve, c7, c8, c9, c10, c11, hce⟩ := exAt_cells.1 hex
              obtain ⟨va1, va2, va3, rfl⟩ := hcs.slice
              obtain ⟨vp1, vp2, vp3, rfl⟩ := hps.slice
              obtain ⟨ve1, ve2, ve3, rfl⟩ := hce.slice
              rw [Nat.add_assoc] at c4 c5 c6 c8 c9 c10 c11
              have d0 := (HL.out.cell (p := ⟨b, off + j * 12, none⟩) hbw).trans c0
              have d1 := (HL.out.cell (p := ⟨b, off + j * 12 + 1, none⟩) hbw).trans c1
              have d2 := (HL.out.cell (p := ⟨b, off + j * 12 + 2, none⟩) hbw).trans c2
              have d3 := (HL.out.cell (p := ⟨b, off + j * 12 + 3, none⟩) hbw).trans c3
              have d4 := (HL.out.cell (p := ⟨b, off + j * 12 + 4, none⟩) hbw).trans c4
              have d5 := (HL.out.cell (p := ⟨b, off + j * 12 + 5, none⟩) hbw).trans c5
              have d6 := (HL.out.cell (p := ⟨b, off + j * 12 + 6, none⟩) hbw).trans c6
              have d7 := (HL.out.cell (p := ⟨b, off + j * 12 + 7, none⟩) hbw).trans c7
              have d8 := (HL.out.cell (p := ⟨b, off + j * 12 + 8, none⟩) hbw).trans c8
              have d9 := (HL.out.cell (p := ⟨b, off + j * 12 + 9, none⟩) hbw).trans c9
              have d10 := (HL.out.cell (p := ⟨b, off + j * 12 + 10, none⟩) hbw).trans c10
              have d11 := (HL.out.cell (p := ⟨b, off + j * 12 + 11, none⟩) hbw).trans c11
              have hkp : Keeps S S w wr := Keeps.below HL.out hS
              have cI := funcFault_any S x.funcs[j] (.agg #[.string x.funcs[j].name, .string x.funcs[j].var, .slice vp1 vp2 vp3, .int .i64 kd, .string fo, .string na, .slice va1 va2 va3, .int .i64 ke, .int .i64 ne, .string fe, .string se, .slice ve1 ve2 ve3]) wr (fun b h => by have := hS b h; omega) ⟨_, _, _, _, _, _, _, _, _, _, rfl, hsz, hsz1, fdSl_keep hkp hps, hcs.keep hkp, hce.keep hkp⟩
              clear c0 c1 c2 c3 c4 c5 c6 c7 c8 c9 c10 c11 hcs hrow hty hex hce hps HA hkp
              generalize x.funcs[j] = pj at *
              by_cases hz : fuFault pj = 0
              · have hz' : (fuFault pj != 0) = false := by rw [hz]; rfl
                have HN := veil (HNx.out hz)
                clear HAt HNx hz
                go_wp2_with fail
                refine cI.mono ?_
                rintro e w' ⟨rfl, hb'⟩
                go_wp2_with fail
                exact ⟨⟨j + 1, by omega, by go_num, HN.out, HBL.out.trans (hb'.mono hbs)⟩, by simp [intOf]; omega⟩
              · have hz' : (fuFault pj != 0) = true := bne_iff_ne.2 hz
                have HFF := veil (HAt.out hz)
                rw [HFF.out] at HT
                clear HAt HNx hz HFF
                go_wp2_with fail
                refine cI.mono ?_
                rintro e w' ⟨rfl, hb'⟩
                go_wp2_with fail
                go_ret
                exact ⟨by rw [HT.out]; rfl, HL.out.trans (hb'.mono (by omega))⟩
            · have HFF := veil (firstBad_none fuFault x.funcs fun q hq => HA.out q hq (by omega))
              rw [HFF.out] at HT
              clear HFF HA HR6
              go_wp2_with fail
              go_ret
              exact ⟨by rw [HT.out]; rfl, HL.out⟩

end Go.Proofs.YtcpnfkeoajeodaaGreatDoor
