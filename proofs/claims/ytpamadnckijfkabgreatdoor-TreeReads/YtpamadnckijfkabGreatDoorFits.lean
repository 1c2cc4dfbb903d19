/- What tree.emptyOrIdent, typeFits, namesFit and countFits answer, at every type and expression: plain functions of their fields. -/
import Derived.Test.YtpamadnckijfkabGreatDoorIdent
namespace Go.Proofs.YtpamadnckijfkabGreatDoor
open Go.RowKit
set_option maxRecDepth 100000

theorem len_eq (a b : Nat) : ((a : Int) == (b : Int)) = (a == b) := by
  rw [Bool.eq_iff_iff, beq_iff_eq, beq_iff_eq]; omega

theorem emptyOrIdent_any (s : ByteArray) (hs : s.size ≤ maxLen) (w : World) : Calls Tryz.prog 78 #[.string s] w fun e w' => e = .returned (.bool (noneOrIdent s)) ∧ Below w.heap.size w w' := by
  have HN : Hid (noneOrIdent s = ((s.toList == []) || identOk s)) := by show _ = _; rw [text_eq]; rfl
  cases h : (s.toList == [])
  · rw [h] at HN
    go_enter Tryz.func78, Tryz.ntmps78
    go_wp2_with fail
    refine (ident_any s hs _).mono ?_
    rintro e w' ⟨rfl, hb⟩
    go_wp2
    go_ret
    exact ⟨by rw [HN.out]; rfl, hb⟩
  · rw [h] at HN
    go_enter Tryz.func78, Tryz.ntmps78
    go_wp2_with fail
    go_ret
    exact ⟨by rw [HN.out]; rfl, Below.refl _ _⟩

set_option maxHeartbeats 1000000 in
theorem typeFits_any (k : Int) (f n : ByteArray) (a : Option Addr) (c cap : Nat) (hf : f.size ≤ maxLen) (hn : n.size ≤ maxLen) (w : World) :
    Calls Tryz.prog 113 #[.agg #[.int .i64 k, .string f, .string n, .slice a c cap]] w fun e w' => e = .returned (.bool (tyFits k f n c)) ∧ Below w.heap.size w w' := by
  have HB : Hid (Below w.heap.size w (w.alloc (.cells #[.int .i64 k, .string f, .string n, .slice a c cap] 49))) := (Below.refl _ _).alloc (Nat.le_refl _) _
  have HNN := veil (text_eq n [])
  have HNF := veil (text_eq f [])
  have H1 := veil (len_eq c 1)
  have H0 := veil (len_eq c 0)
  by_cases h3 : k = 3
  · subst h3
    have HT : Hid (tyFits 3 f n c = (((c : Int) == 1) && ((n.toList == []) && (f.toList == [])))) := by show _ = _; rw [HNN.out, HNF.out]; exact congrArg (· && _) H1.out.symm
    cases hc1 : ((c : Int) == 1) <;> cases hn1 : (n.toList == []) <;> cases hf1 : (f.toList == [])
    all_goals
      rw [hc1, hn1, hf1] at HT
      go_enter Tryz.func113, Tryz.ntmps113
      go_wp2_with fail
      go_ret
      exact ⟨by rw [HT.out]; rfl, HB.out⟩
  have h3' : (k == 3) = false := beq_eq_false_iff_ne.2 h3
  by_cases h4 : k = 4
  · subst h4
    have HR : Hid (tyFits 4 f n c = (((c : Int) == 0) && (identOk n && noneOrIdent f))) := by show _ = _; exact congrArg (· && _) H0.out.symm
    cases hc0 : ((c : Int) == 0)
    · rw [hc0] at HR
      go_enter Tryz.func113, Tryz.ntmps113
      go_wp2_with fail
      go_ret
      exact ⟨by rw [HR.out]; rfl, HB.out⟩
    · rw [hc0] at HR
      cases hi : identOk n
      · rw [hi] at HR
        go_enter Tryz.func113, Tryz.ntmps113
        go_wp2_with fail
        refine (ident_any n hn _).mono ?_
        rintro e w' ⟨rfl, hb⟩
        rw [hi]
        go_wp2
        go_ret
        exact ⟨by rw [HR.out]; rfl, HB.out.trans (hb.mono (by simp))⟩
      · rw [hi] at HR
        go_enter Tryz.func113, Tryz.ntmps113
        go_wp2_with fail
        refine (ident_any n hn _).mono ?_
        rintro e w1 ⟨rfl, hb⟩
        rw [hi]
        have c1 : w1.cell? ⟨w.heap.size, 1, none⟩ = some (.string f) := (hb.cell (by simp)).trans (World.cell?_alloc_at _ _ _ _ rfl)
        have HB1 := veil (HB.out.trans (hb.mono (by simp)))
        clear hb
        go_wp2_with fail
        refine (emptyOrIdent_any f hf _).mono ?_
        rintro e w2 ⟨rfl, hb2⟩
        go_wp2
        go_ret
        exact ⟨by rw [HR.out]; rfl, HB1.out.trans (hb2.mono HB1.out.size)⟩
  · have h4' : (k == 4) = false := beq_eq_false_iff_ne.2 h4
    have HT : Hid (tyFits k f n c = (((c : Int) == 0) && ((n.toList == []) && (f.toList == [])))) := by show _ = _; unfold tyFits; rw [if_neg h3, if_neg h4, HNN.out, HNF.out]; exact congrArg (· && _) H0.out.symm
    clear h3 h4
    cases hc0 : ((c : Int) == 0) <;> cases hn1 : (n.toList == []) <;> cases hf1 : (f.toList == [])
    all_goals
      rw [hc0, hn1, hf1] at HT
      go_enter Tryz.func113, Tryz.ntmps113
      go_wp2_with fail
      go_ret
      exact ⟨by rw [HT.out]; rfl, HB.out⟩

set_option maxHeartbeats 1000000 in
theorem namesFit_any (k m : Int) (f s : ByteArray) (v : Value) (hf : f.size ≤ maxLen) (hs : s.size ≤ maxLen) (w : World) :
    Calls Tryz.prog 116 #[.agg #[.int .i64 k, .int .i64 m, .string f, .string s, v]] w fun e w' => e = .returned (.bool (namesFit k f s)) ∧ Below w.heap.size w w' := by
  have HB : Hid (Below w.heap.size w (w.alloc (.cells #[.int .i64 k, .int .i64 m, .string f, .string s, v] 52))) := (Below.refl _ _).alloc (Nat.le_refl _) _
  have HNS := veil (text_eq s [])
  have HNF := veil (text_eq f [])
  by_cases h2 : k = 2
  · subst h2
    have HT : Hid (namesFit 2 f s = (quoteOk s && (f.toList == []))) := by show _ = _; rw [HNF.out]; rfl
    cases hq : quoteOk s
    · rw [hq] at HT
      go_enter Tryz.func116, Tryz.ntmps116
      go_wp2_with fail
      refine (quotable_any s hs _).mono ?_
      rintro e w' ⟨rfl, hb⟩
      rw [hq]
      go_wp2
      go_ret
      exact ⟨by rw [HT.out]; rfl, HB.out.trans (hb.mono (by simp))⟩
    · cases hf1 : (f.toList == [])
      all_goals
        rw [hq, hf1] at HT
        go_enter Tryz.func116, Tryz.ntmps116
        go_wp2_with fail
        refine (quotable_any s hs _).mono ?_
        rintro e w1 ⟨rfl, hb⟩
        rw [hq]
        have c1 : w1.cell? ⟨w.heap.size, 2, none⟩ = some (.string f) := (hb.cell (by simp)).trans (World.cell?_alloc_at _ _ _ _ rfl)
        have HB1 := veil (HB.out.trans (hb.mono (by simp)))
        clear hb
        go_wp2
        go_ret
        exact ⟨by rw [HT.out]; rfl, HB1.out⟩
  have h2' : (k == 2) = false := beq_eq_false_iff_ne.2 h2
  by_cases h3 : k = 3
  · subst h3
    have HT : Hid (namesFit 3 f s = (identOk s && (f.toList == []))) := by show _ = _; rw [HNF.out]; rfl
    cases hq : identOk s
    · rw [hq] at HT
      go_enter Tryz.func116, Tryz.ntmps116
      go_wp2_with fail
      refine (ident_any s hs _).mono ?_
      rintro e w' ⟨rfl, hb⟩
      rw [hq]
      go_wp2
      go_ret
      exact ⟨by rw [HT.out]; rfl, HB.out.trans (hb.mono (by simp))⟩
    · cases hf1 : (f.toList == [])
      all_goals
        rw [hq, hf1] at HT
        go_enter Tryz.func116, Tryz.ntmps116
        go_wp2_with fail
        refine (ident_any s hs _).mono ?_
        rintro e w1 ⟨rfl, hb⟩
        rw [hq]
        have c1 : w1.cell? ⟨w.heap.size, 2, none⟩ = some (.string f) := (hb.cell (by simp)).trans (World.cell?_alloc_at _ _ _ _ rfl)
        have HB1 := veil (HB.out.trans (hb.mono (by simp)))
        clear hb
        go_wp2
        go_ret
        exact ⟨by rw [HT.out]; rfl, HB1.out⟩
  have h3' : (k == 3) = false := beq_eq_false_iff_ne.2 h3
  by_cases h4 : k = 4
  · subst h4
    have HT : Hid (namesFit 4 f s = (identOk s && noneOrIdent f)) := rfl
    cases hq : identOk s
    · rw [hq] at HT
      go_enter Tryz.func116, Tryz.ntmps116
      go_wp2_with fail
      refine (ident_any s hs _).mono ?_
      rintro e w' ⟨rfl, hb⟩
      rw [hq]
      go_wp2
      go_ret
      exact ⟨by rw [HT.out]; rfl, HB.out.trans (hb.mono (by simp))⟩
    · rw [hq] at HT
      go_enter Tryz.func116, Tryz.ntmps116
      go_wp2_with fail
      refine (ident_any s hs _).mono ?_
      rintro e w1 ⟨rfl, hb⟩
      rw [hq]
      have c1 : w1.cell? ⟨w.heap.size, 2, none⟩ = some (.string f) := (hb.cell (by simp)).trans (World.cell?_alloc_at _ _ _ _ rfl)
      have HB1 := veil (HB.out.trans (hb.mono (by simp)))
      clear hb
      go_wp2_with fail
      refine (emptyOrIdent_any f hf _).mono ?_
      rintro e w2 ⟨rfl, hb2⟩
      go_wp2
      go_ret
      exact ⟨by rw [HT.out]; rfl, HB1.out.trans (hb2.mono HB1.out.size)⟩
  · have h4' : (k == 4) = false := beq_eq_false_iff_ne.2 h4
    have HT : Hid (namesFit k f s = ((s.toList == []) && (f.toList == []))) := by show _ = _; unfold namesFit; rw [if_neg h2, if_neg h3, if_neg h4, HNS.out, HNF.out]; rfl
    clear h2 h3 h4
    cases hn1 : (s.toList == []) <;> cases hf1 : (f.toList == [])
    all_goals
      rw [hn1, hf1] at HT
      go_enter Tryz.func116, Tryz.ntmps116
      go_wp2_with fail
      go_ret
      exact ⟨by rw [HT.out]; rfl, HB.out⟩

set_option maxHeartbeats 1000000 in
theorem countFits_any (k m : Int) (f s : ByteArray) (a : Option Addr) (c cap : Nat) (w : World) :
    Calls Tryz.prog 117 #[.agg #[.int .i64 k, .int .i64 m, .string f, .string s, .slice a c cap]] w fun e w' => e = .returned (.bool (countFits k c)) ∧ Below w.heap.size w w' := by
  have HB : Hid (Below w.heap.size w (w.alloc (.cells #[.int .i64 k, .int .i64 m, .string f, .string s, .slice a c cap] 52))) := (Below.refl _ _).alloc (Nat.le_refl _) _
  by_cases h4 : k = 4
  · subst h4
    have HT : Hid (countFits 4 c = true) := rfl
    go_enter Tryz.func117, Tryz.ntmps117
    go_wp2_with fail
    go_ret
    exact ⟨by rw [HT.out]; rfl, HB.out⟩
  have h4' : (k == 4) = false := beq_eq_false_iff_ne.2 h4
  by_cases h6 : k = 6
  · subst h6
    have HT : Hid (countFits 6 c = decide (0 < c)) := rfl
    by_cases h0 : 0 < c
    · have h0' : (0 : Int) < (c : Int) := by omega
      rw [show decide (0 < c) = true from decide_eq_true h0] at HT
      go_enter Tryz.func117, Tryz.ntmps117
      go_wp2_with fail
      go_ret
      exact ⟨by rw [HT.out]; simp [*], HB.out⟩
    · have h0' : ¬ (0 : Int) < (c : Int) := by omega
      rw [show decide (0 < c) = false from decide_eq_false h0] at HT
      go_enter Tryz.func117, Tryz.ntmps117
      go_wp2_with fail
      go_ret
      exact ⟨by rw [HT.out]; simp [*], HB.out⟩
  have h6' : (k == 6) = false := beq_eq_false_iff_ne.2 h6
  by_cases h5 : k = 5
  · subst h5
    have HT : Hid (countFits 5 c = ((c : Int) == 2)) := (len_eq c 2).symm
    go_enter Tryz.func117, Tryz.ntmps117
    go_wp2_with fail
    go_ret
    exact ⟨by rw [HT.out]; rfl, HB.out⟩
  have h5' : (k == 5) = false := beq_eq_false_iff_ne.2 h5
  by_cases h7 : k = 7
  · subst h7
    have HT : Hid (countFits 7 c = ((c : Int) == 2)) := (len_eq c 2).symm
    go_enter Tryz.func117, Tryz.ntmps117
    go_wp2_with fail
    go_ret
    exact ⟨by rw [HT.out]; rfl, HB.out⟩
  have h7' : (k == 7) = false := beq_eq_false_iff_ne.2 h7
  have HT : Hid (countFits k c = ((c : Int) == 0)) := by show _ = _; unfold countFits; rw [if_neg h4, if_neg h6, if_neg (by omega)]; exact (len_eq c 0).symm
  clear h4 h5 h6 h7
  go_enter Tryz.func117, Tryz.ntmps117
  go_wp2_with fail
  go_ret
  exact ⟨by rw [HT.out]; rfl, HB.out⟩

end Go.Proofs.YtpamadnckijfkabGreatDoor
