/- What token.tokenOf and token.tokenAt answer, at every text and place in it: the token that begins there, and where it ends. -/
import Derived.Test.YtpamadnckijfkabGreatDoorCutSpec
namespace Go.Proofs.YtpamadnckijfkabGreatDoor
open Go.RowKit
set_option maxRecDepth 100000

def CloneSaid : Prop := ∀ (s : ByteArray) (w : World), s.size ≤ 281474976710656 → Calls Tryz.prog 128 #[.string s] w fun e w' => e = .returned (.string s) ∧ Below w.heap.size w w'

set_option maxHeartbeats 400000 in
theorem tokenOf_any (hcl : CloneSaid) (k : Int) (t : ByteArray) (ht : t.size ≤ 281474976710656) (w : World) :
    Calls Tryz.prog 97 #[.int .i64 k, .string t] w fun e w' => e = .returned (.agg #[.int .i64 k, .string t]) ∧ Below w.heap.size w w' := by
  go_enter Tryz.func97, Tryz.ntmps97
  go_wp2_with fail
  refine (hcl t _ ht).mono ?_
  rintro e w1 ⟨rfl, hb⟩
  have c0 := hb.cell (p := ⟨w.heap.size, 0, none⟩) (by simp)
  have c1 := hb.cell (p := ⟨w.heap.size, 1, none⟩) (by simp)
  have f0 := hb.frozen (p := ⟨w.heap.size, 0, none⟩) (by simp)
  have f1 := hb.frozen (p := ⟨w.heap.size, 1, none⟩) (by simp)
  simp [World.cell?_alloc_at, World.frozen?_alloc_at] at c0 c1 f0 f1
  have hz : w.heap.size < w1.heap.size := by have := hb.size; simp at this; omega
  have HB := veil hb
  clear hb
  go_wp2
  have q0 : ((w1.setCell ⟨w.heap.size, 0, none⟩ (.int .i64 k)).setCell ⟨w.heap.size, 1, none⟩ (.string t)).cell? ⟨w.heap.size, 0, none⟩ = some (.int .i64 k) := by
    rw [World.cell?_setCell_other _ _ _ _ (by intro h; injection h; omega)]
    exact World.cell?_setCell_same _ _ _ c0
  have q1 : ((w1.setCell ⟨w.heap.size, 0, none⟩ (.int .i64 k)).setCell ⟨w.heap.size, 1, none⟩ (.string t)).cell? ⟨w.heap.size, 1, none⟩ = some (.string t) := by
    refine World.cell?_setCell_same _ _ _ (u := .string ⟨#[]⟩) ?_
    rw [World.cell?_setCell_other _ _ _ _ (by intro h; injection h; omega)]
    exact c1
  have hbb := (((Below.refl w.heap.size w).alloc (Nat.le_refl _) _).trans (HB.out.mono (by simp))).setCell (p := ⟨w.heap.size, 0, none⟩) (Nat.le_refl _) (.int .i64 k)
  exact bodyPost_ret (v := .agg #[.int .i64 k, .string t]) (by simp [results, Tryz.results97, go_sem, q0, q1]) rfl ⟨rfl, hbb.setCell (p := ⟨w.heap.size, 1, none⟩) (Nat.le_refl _) (.string t)⟩

theorem notQuote_any (b : Int) (w : World) : Calls Tryz.prog 96 #[.int .u8 b] w fun e w' => e = .returned (.bool (notQuote b)) ∧ w = w' := by
  go_enter Tryz.func96, Tryz.ntmps96
  go_wp2
  go_ret
  exact ⟨rfl, rfl⟩

theorem run_pure (g : Nat) (eg : ∀ args w, (callFunc g args).run Tryz.prog w = .ok (.enter g args) w) (q : Int → Bool) (hq : ∀ (b : Int) (w : World), Calls Tryz.prog g #[.int .u8 b] w fun e w' => e = .returned (.bool (q b)) ∧ w = w')
    (s : ByteArray) (hs : s.size ≤ maxLen) (B : Nat) (a : Int) (h0 : 0 ≤ a) (h1 : a ≤ s.size) (w : World) (hc : w.cell? ⟨B, 0, none⟩ = some (.string s)) :
    Calls Tryz.prog 95 #[.int .i64 a, .func (.func g) #[] #[], .pointer (some ⟨B, 0, none⟩)] w fun e w' => e = .returned (.int .i64 (runEnd q s a.toNat)) ∧ w = w' := by
  refine (run_any g #[] eg s hs (fun j => q (byteAt s j)) (fun _ W => w = W) B ?_ a ?_ h0 h1 w rfl).mono ?_
  · rintro k W rfl
    exact hc
  · rintro k hk W _ _ rfl
    refine (hq _ _).mono ?_
    rintro e w' ⟨rfl, rfl⟩
    exact ⟨by rw [byteAt_get], rfl⟩
  · rintro e w' ⟨k, rfl, hk, _, h⟩
    exact ⟨by rw [runTo_eq (by omega) hk], h⟩

def tokAns (s : ByteArray) (i : Nat) : (Int × ByteArray) × Nat := (nextTok s i).getD ((0, ⟨#[]⟩), s.size)

theorem two_set {w1 : World} {b : Nat} {x y : Value} (u v : Value) (c0 : w1.cell? ⟨b, 0, none⟩ = some x) (c1 : w1.cell? ⟨b, 1, none⟩ = some y) :
    ((w1.setCell ⟨b, 0, none⟩ u).setCell ⟨b, 1, none⟩ v).cell? ⟨b, 0, none⟩ = some u ∧ ((w1.setCell ⟨b, 0, none⟩ u).setCell ⟨b, 1, none⟩ v).cell? ⟨b, 1, none⟩ = some v := by
  constructor
  · rw [World.cell?_setCell_other _ _ _ _ (by intro h; injection h; omega)]
    exact World.cell?_setCell_same _ _ _ c0
  · refine World.cell?_setCell_same _ _ _ (u := y) ?_
    rw [World.cell?_setCell_other _ _ _ _ (by intro h; injection h; omega)]
    exact c1

theorem tok_cells {w w1 : World} {x y : Value} {c : Array Value} {t : TypeId} (hb : Below ((w.alloc (.cells #[x, y] 90)).alloc (.cells c t)).heap.size ((w.alloc (.cells #[x, y] 90)).alloc (.cells c t)) w1) :
    w1.cell? ⟨w.heap.size, 0, none⟩ = some x ∧ w1.cell? ⟨w.heap.size, 1, none⟩ = some y ∧ w1.frozen? ⟨w.heap.size, 0, none⟩ = false ∧ w1.frozen? ⟨w.heap.size, 1, none⟩ = false ∧ w.heap.size < w1.heap.size ∧ Below w.heap.size w w1 := by
  have c0 := hb.cell (p := ⟨w.heap.size, 0, none⟩) (by simp; omega)
  have c1 := hb.cell (p := ⟨w.heap.size, 1, none⟩) (by simp; omega)
  have f0 := hb.frozen (p := ⟨w.heap.size, 0, none⟩) (by simp; omega)
  have f1 := hb.frozen (p := ⟨w.heap.size, 1, none⟩) (by simp; omega)
  rw [World.cell?_alloc_past _ _ _ (by simp), World.cell?_alloc_at _ _ _ _ rfl] at c0 c1
  rw [World.frozen?_alloc_past _ _ _ (by simp), World.frozen?_alloc_at _ _ _ _ rfl] at f0 f1
  refine ⟨c0, c1, f0, f1, ?_, ?_⟩
  · have := hb.size; simp at this; omega
  · exact (((Below.refl w.heap.size w).alloc (Nat.le_refl _) _).alloc (by simp) _).trans (hb.mono (by simp; omega))

theorem tok_store {w w1 : World} (u v : Value) (h : Below w.heap.size w w1) : Below w.heap.size w ((w1.setCell ⟨w.heap.size, 0, none⟩ u).setCell ⟨w.heap.size, 1, none⟩ v) :=
  (h.setCell (p := ⟨w.heap.size, 0, none⟩) (Nat.le_refl _) u).setCell (p := ⟨w.heap.size, 1, none⟩) (Nat.le_refl _) v

theorem ans_open {s : ByteArray} {i E : Nat} (h : byteAt s i = 34) (hE : runEnd notQuote s (i + 1) = E) (he : E = s.size) : tokAns s i = ((0, ⟨#[]⟩), E) := by
  simp only [tokAns, nextTok, if_pos h, hE, he, if_true, Option.getD_none]
theorem ans_quote {s : ByteArray} {i E : Nat} (h : byteAt s i = 34) (hE : runEnd notQuote s (i + 1) = E) (he : E ≠ s.size) : tokAns s i = ((3, s.extract (i + 1) E), E + 1) := by
  simp only [tokAns, nextTok, if_pos h, hE, if_neg he, Option.getD_some]
theorem ans_word {s : ByteArray} {i E : Nat} (h : byteAt s i ≠ 34) (hl : isLetter (byteAt s i) = true) (hE : runEnd isWordB s i = E) : tokAns s i = ((1, s.extract i E), E) := by
  simp only [tokAns, nextTok, if_neg h, if_pos hl, hE, Option.getD_some]
theorem ans_num {s : ByteArray} {i E : Nat} (h : byteAt s i ≠ 34) (hl : isLetter (byteAt s i) = false) (hd : isDigit (byteAt s i) = true) (hE : runEnd isWordB s i = E) : tokAns s i = ((2, s.extract i E), E) := by
  simp only [tokAns, nextTok, if_neg h, hl, hd, hE, Option.getD_some, Bool.false_eq_true, if_false, if_true]
theorem ans_sign {s : ByteArray} {i : Nat} (h : byteAt s i ≠ 34) (hl : isLetter (byteAt s i) = false) (hd : isDigit (byteAt s i) = false) : tokAns s i = ((4, s.extract i (i + 1)), i + 1) := by
  simp only [tokAns, nextTok, if_neg h, hl, hd, Option.getD_some, Bool.false_eq_true, if_false]

set_option maxHeartbeats 1000000 in
theorem tokenAt_any (hcl : CloneSaid) (s : ByteArray) (hs : s.size ≤ 1500) (i : Nat) (hi : i < s.size) (w : World) :
    Calls Tryz.prog 63 #[.string s, .int .i64 i] w fun e w' => e = .returned (.tuple #[.agg #[.int .i64 (tokAns s i).1.1, .string (tokAns s i).1.2], .int .i64 (tokAns s i).2]) ∧ Below w.heap.size w w' := by
  have HM : Hid (s.size ≤ maxLen) := by show _ ≤ _; unfold maxLen; omega
  have HB := veil (byteAt_get s i hi)
  have hc : ((w.alloc (.cells #[.int .i64 0, .string ⟨#[]⟩] 90)).alloc (.cells #[.string s] 9)).cell? ⟨w.heap.size + 1, 0, none⟩ = some (.string s) := by
    rw [World.cell?_alloc_at _ _ _ _ (by simp)]; rfl
  by_cases h34 : (((s[i]'hi).toNat : Int) == 34) = true
  · have hr := run_pure 96 (enters_of Tryz.func96 (by kernel_rfl) rfl) notQuote notQuote_any s HM.out (w.heap.size + 1) ((i : Int) + 1) (by omega) (by omega) _ hc
    rw [show ((i : Int) + 1).toNat = i + 1 from by omega] at hr
    have h34' : byteAt s i = 34 := by rw [← HB.out]; simpa using h34
    obtain ⟨e1, e2, _, _⟩ := runEnd_spec notQuote s (i + 1) (by omega)
    have HO := veil (@ans_open s i (runEnd notQuote s (i + 1)) h34' rfl)
    have HQ := veil (@ans_quote s i (runEnd notQuote s (i + 1)) h34' rfl)
    clear h34'
    generalize runEnd notQuote s (i + 1) = E at *
    by_cases hE : E = s.size
    · have hE' : ((E : Int) == (s.size : Int)) = true := by simp [hE]
      have HA := veil (HO.out hE)
      clear HO HQ hE
      go_enter Tryz.func63, Tryz.ntmps63
      go_wp2_with (go_at_call 61; refine (runOf_any _ _).mono ?_; rintro e w' ⟨rfl, rfl⟩)
      refine hr.mono ?_
      rintro e w' ⟨rfl, rfl⟩
      clear hr
      go_wp2
      exact bodyPost_ret (v := .tuple #[.agg #[.int .i64 0, .string ⟨#[]⟩], .int .i64 E]) (by simp [results, Tryz.results63, go_sem]) rfl
        ⟨by rw [HA.out], ((Below.refl w.heap.size w).alloc (Nat.le_refl _) _).alloc (by simp) _⟩
    · have hE' : ((E : Int) == (s.size : Int)) = false := by rw [beq_eq_false_iff_ne]; omega
      have hlt : E < s.size := by omega
      have HA := veil (HQ.out hE)
      clear HO HQ hE
      go_enter Tryz.func63, Tryz.ntmps63
      go_wp2_with (go_at_call 61; refine (runOf_any _ _).mono ?_; rintro e w' ⟨rfl, rfl⟩)
      refine hr.mono ?_
      rintro e w' ⟨rfl, rfl⟩
      clear hr
      go_wp2_with fail
      refine (tokenOf_any hcl 3 (s.extract (i + 1) E) (by have := size_extract_le s (i + 1) E; omega) _).mono ?_
      rintro e w1 ⟨rfl, hb⟩
      obtain ⟨c0, c1, f0, f1, hz, hbb⟩ := tok_cells hb
      clear hb
      have HBB := veil hbb
      have Q2 := veil (two_set (.int .i64 3) (.string (s.extract (i + 1) E)) c0 c1)
      clear hbb
      go_wp2
      obtain ⟨q0, q1⟩ := Q2.out
      exact bodyPost_ret (v := .tuple #[.agg #[.int .i64 3, .string (s.extract (i + 1) E)], .int .i64 ((E : Int) + 1)]) (by simp [results, Tryz.results63, go_sem, q0, q1]) rfl
        ⟨by rw [HA.out]; simp, tok_store _ _ HBB.out⟩
  · have h34' : (((s[i]'hi).toNat : Int) == 34) = false := by simpa using h34
    have hne : byteAt s i ≠ 34 := by rw [← HB.out]; simpa using h34
    clear h34
    by_cases hl : isLetter (byteAt s i) = true
    · have hr := run_pure 99 (enters_of Tryz.func99 (by kernel_rfl) rfl) isWordB wordByte_any s HM.out (w.heap.size + 1) (i : Int) (by omega) (by omega) _ hc
      rw [Int.toNat_natCast] at hr
      have hl' : isLetter ((s[i]'hi).toNat : Int) = true := by rw [HB.out]; exact hl
      have HA := veil (@ans_word s i (runEnd isWordB s i) hne hl rfl)
      obtain ⟨e1, e2, _, _⟩ := runEnd_spec isWordB s i (by omega)
      clear hne hl
      generalize runEnd isWordB s i = E at *
      go_enter Tryz.func63, Tryz.ntmps63
      go_wp2_with (first | (go_at_call 61; refine (runOf_any _ _).mono ?_; rintro e w' ⟨rfl, rfl⟩) | (go_at_call 98; refine (letter_any _ _).mono ?_; rintro e w' ⟨rfl, rfl⟩))
      refine hr.mono ?_
      rintro e w' ⟨rfl, rfl⟩
      clear hr
      go_wp2_with fail
      refine (tokenOf_any hcl 1 (s.extract i E) (by have := size_extract_le s i E; omega) _).mono ?_
      rintro e w1 ⟨rfl, hb⟩
      obtain ⟨c0, c1, f0, f1, hz, hbb⟩ := tok_cells hb
      clear hb
      have HBB := veil hbb
      have Q2 := veil (two_set (.int .i64 1) (.string (s.extract i E)) c0 c1)
      clear hbb
      go_wp2
      obtain ⟨q0, q1⟩ := Q2.out
      exact bodyPost_ret (v := .tuple #[.agg #[.int .i64 1, .string (s.extract i E)], .int .i64 E]) (by simp [results, Tryz.results63, go_sem, q0, q1]) rfl
        ⟨by rw [HA.out], tok_store _ _ HBB.out⟩
    · have hlf : isLetter (byteAt s i) = false := by simpa using hl
      have hl' : isLetter ((s[i]'hi).toNat : Int) = false := by rw [HB.out]; exact hlf
      clear hl
      by_cases hd : isDigit (byteAt s i) = true
      · have hr := run_pure 99 (enters_of Tryz.func99 (by kernel_rfl) rfl) isWordB wordByte_any s HM.out (w.heap.size + 1) (i : Int) (by omega) (by omega) _ hc
        rw [Int.toNat_natCast] at hr
        have hd' : isDigit ((s[i]'hi).toNat : Int) = true := by rw [HB.out]; exact hd
        have HA := veil (@ans_num s i (runEnd isWordB s i) hne hlf hd rfl)
        obtain ⟨e1, e2, _, _⟩ := runEnd_spec isWordB s i (by omega)
        clear hne hd hlf
        generalize runEnd isWordB s i = E at *
        go_enter Tryz.func63, Tryz.ntmps63
        go_wp2_with (first | (go_at_call 61; refine (runOf_any _ _).mono ?_; rintro e w' ⟨rfl, rfl⟩) | (go_at_call 98; refine (letter_any _ _).mono ?_; rintro e w' ⟨rfl, rfl⟩) | (go_at_call 100; refine (digit_any _ _).mono ?_; rintro e w' ⟨rfl, rfl⟩))
        refine hr.mono ?_
        rintro e w' ⟨rfl, rfl⟩
        clear hr
        go_wp2_with fail
        refine (tokenOf_any hcl 2 (s.extract i E) (by have := size_extract_le s i E; omega) _).mono ?_
        rintro e w1 ⟨rfl, hb⟩
        obtain ⟨c0, c1, f0, f1, hz, hbb⟩ := tok_cells hb
        clear hb
        have HBB := veil hbb
        have Q2 := veil (two_set (.int .i64 2) (.string (s.extract i E)) c0 c1)
        clear hbb
        go_wp2
        obtain ⟨q0, q1⟩ := Q2.out
        exact bodyPost_ret (v := .tuple #[.agg #[.int .i64 2, .string (s.extract i E)], .int .i64 E]) (by simp [results, Tryz.results63, go_sem, q0, q1]) rfl
          ⟨by rw [HA.out], tok_store _ _ HBB.out⟩
      · have hdf : isDigit (byteAt s i) = false := by simpa using hd
        have hd' : isDigit ((s[i]'hi).toNat : Int) = false := by rw [HB.out]; exact hdf
        have HA := veil (@ans_sign s i hne hlf hdf)
        clear hne hd hlf hdf
        go_enter Tryz.func63, Tryz.ntmps63
        go_wp2_with (first | (go_at_call 61; refine (runOf_any _ _).mono ?_; rintro e w' ⟨rfl, rfl⟩) | (go_at_call 98; refine (letter_any _ _).mono ?_; rintro e w' ⟨rfl, rfl⟩) | (go_at_call 100; refine (digit_any _ _).mono ?_; rintro e w' ⟨rfl, rfl⟩))
        refine (tokenOf_any hcl 4 (s.extract i (i + 1)) (by have := size_extract_le s i (i + 1); omega) _).mono ?_
        rintro e w1 ⟨rfl, hb⟩
        obtain ⟨c0, c1, f0, f1, hz, hbb⟩ := tok_cells hb
        clear hb
        have HBB := veil hbb
        have Q2 := veil (two_set (.int .i64 4) (.string (s.extract i (i + 1))) c0 c1)
        clear hbb
        go_wp2
        obtain ⟨q0, q1⟩ := Q2.out
        exact bodyPost_ret (v := .tuple #[.agg #[.int .i64 4, .string (s.extract i (i + 1))], .int .i64 ((i : Int) + 1)]) (by simp [results, Tryz.results63, go_sem, q0, q1]) rfl
          ⟨by rw [HA.out]; simp, tok_store _ _ HBB.out⟩

end Go.Proofs.YtpamadnckijfkabGreatDoor
