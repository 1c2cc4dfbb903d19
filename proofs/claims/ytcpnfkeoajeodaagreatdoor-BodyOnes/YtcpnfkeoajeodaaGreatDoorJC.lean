/- What tree.checkType and checkExpr, and the reference's typeFault and exprFault, answer, at every type and expression and at every depth: the first fault. -/
import Derived.Test.YtcpnfkeoajeodaaGreatDoorJB
namespace Go.Proofs.YtcpnfkeoajeodaaGreatDoor
open Go.RowKit
set_option maxRecDepth 100000

theorem makeFunc_run (fn : Fn) (first cap : Array Value) (w : World) : (Instr.makeFunc fn first cap).run Tryz.prog w = .ok (.func fn first cap) w := rfl

theorem noneB_text (s : ByteArray) : (s.toList == []) = noneB s := text_eq s []

set_option maxHeartbeats 4000000 in
theorem typeFault_any : ∀ (m d : Nat), 10 < d + m → ∀ (S : Nat → Prop) (t : Ty) (v : Value) (w : World), d < 1000 → (∀ b, S b → b < w.heap.size) → TyIs S w t v →
    Calls Tryz.prog 19 #[v, .int .i64 d] w fun e w' => e = .returned (.int .i64 (tyFault t d)) ∧ Below w.heap.size w w' := by
  intro m
  induction m with
  | zero =>
    rintro d hd S t v w hd1 hS ⟨k, f, n, va, rfl, xs, rfl, hf, hn, hsl⟩
    have hd' : (10 : Int) < (d : Int) := by omega
    have HF : Hid (tyFault (.mk k f n xs) d = 1) := by show _ = _; rw [tyFault, if_pos (by omega)]
    obtain ⟨a, c, cap, rfl⟩ := hsl.slice
    clear hsl
    go_enter Tryz.func19, Tryz.ntmps19
    go_wp2_with fail
    go_ret
    exact ⟨by rw [HF.out]; rfl, (Below.refl _ _).alloc (Nat.le_refl _) _⟩
  | succ m ih =>
    rintro d hd S t v w hd1 hS ⟨k, f, n, va, rfl, xs, rfl, hf, hn, hsl⟩
    have HIH := veil ih
    clear ih
    by_cases hd0 : 10 < d
    · have hd' : (10 : Int) < (d : Int) := by omega
      have HF : Hid (tyFault (.mk k f n xs) d = 1) := by show _ = _; rw [tyFault, if_pos (by omega)]
      obtain ⟨a, c, cap, rfl⟩ := hsl.slice
      clear hsl
      go_enter Tryz.func19, Tryz.ntmps19
      go_wp2_with fail
      go_ret
      exact ⟨by rw [HF.out]; rfl, (Below.refl _ _).alloc (Nat.le_refl _) _⟩
    have hd' : ¬ (10 : Int) < (d : Int) := by omega
    obtain ⟨a, cap, rfl, ⟨hlen, hlenC⟩, hrest⟩ := hsl
    unfold maxLen at hlen
    have HB : Hid (Below w.heap.size w (w.alloc (.cells #[.int .i64 k, .string f, .string n, .slice a xs.length cap] 49))) := (Below.refl _ _).alloc (Nat.le_refl _) _
    cases hk : isIn k 1 4
    · have HF : Hid (tyFault (.mk k f n xs) d = 3) := by show _ = _; rw [tyFault, if_neg hd0, if_pos hk]
      clear hrest
      go_enter Tryz.func19, Tryz.ntmps19
      go_wp2_with (go_at_call 43; refine (in_any _ _ _ _).mono ?_; rintro e w' ⟨rfl, rfl⟩)
      go_ret
      exact ⟨by rw [HF.out]; rfl, HB.out⟩
    have HT : Hid (tyFault (.mk k f n xs) d = if tyFits k f n xs.length = false then 4 else tysFault xs (d + 1)) := by show _ = _; rw [tyFault, if_neg hd0, if_neg (by rw [hk]; simp)]
    have HNN := veil (noneB_text n)
    have HNF := veil (noneB_text f)
    have HREST := veil hrest
    clear hrest
    by_cases h3 : k = 3
    · subst h3
      by_cases hc : xs.length = 1
      · have hc1 : ((xs.length : Int) != 1) = false := by simp [hc]
        cases hn1 : (n.toList == []) <;> cases hf1 : (f.toList == [])
        case true.true =>
          match xs, hc with
          | [t], _ =>
            have hfit : tyFits 3 f n [t].length = true := by rw [hn1] at HNN; rw [hf1] at HNF; simp [tyFits, ← HNN.out, ← HNF.out]
            have HF : Hid (tyFault (.mk 3 f n [t]) d = tyFault t (d + 1)) := by
              show _ = _
              rw [HT.out, if_neg (by rw [hfit]; simp), tysFault, tysFault]
              split <;> simp_all
            rcases HREST.out with h0 | ⟨b, off, rfl, hb, hrow⟩
            · simp at h0
            have hbw := hS b hb
            have hty := hrow.get 0 (by simp)
            simp only [Nat.zero_mul, Nat.add_zero, List.getElem_cons_zero] at hty
            obtain ⟨kd, fo, na, va, c0, c1, c2, c3, hcs⟩ := tyAt_cells.1 hty
            obtain ⟨va1, va2, va3, rfl⟩ := hcs.slice
            have HC := veil (hcs.keep (Keeps.below ((Below.refl w.heap.size w).alloc (Nat.le_refl _) (.cells #[.int .i64 3, .string f, .string n, .slice (some ⟨b, off, none⟩) [t].length cap] 49)) hS))
            have cI := HIH.out (d + 1) (by omega) S t _ _ (by omega) (fun b h => by have := hS b h; simp; omega) ⟨_, _, _, _, rfl, HC.out⟩
            have en : ((d + 1 : Nat) : Int) = (d : Int) + 1 := by omega
            rw [en] at cI
            clear HIH HC hcs hty hrow HREST HT HNN HNF hfit
            simp only [List.length_cons, List.length_nil, Nat.zero_add] at *
            go_enter Tryz.func19, Tryz.ntmps19
            go_wp2_with (go_at_call 43; refine (in_any _ _ _ _).mono ?_; rintro e w' ⟨rfl, rfl⟩)
            refine cI.mono ?_
            rintro e w2 ⟨rfl, hb2⟩
            go_wp2
            go_ret
            exact ⟨by rw [HF.out]; rfl, HB.out.trans (hb2.mono (by simp))⟩
        all_goals
          have hfit : tyFits 3 f n xs.length = false := by rw [hn1] at HNN; rw [hf1] at HNF; simp [tyFits, ← HNN.out, ← HNF.out]
          have HF := veil (HT.out.trans (if_pos hfit))
          clear HREST HIH hfit HT HNN HNF hc
          go_enter Tryz.func19, Tryz.ntmps19
          go_wp2_with (go_at_call 43; refine (in_any _ _ _ _).mono ?_; rintro e w' ⟨rfl, rfl⟩)
          go_ret
          exact ⟨by rw [HF.out]; rfl, HB.out⟩
      · have hc1 : ((xs.length : Int) != 1) = true := by simp; omega
        have hfit : tyFits 3 f n xs.length = false := by simp [tyFits, hc]
        have HF := veil (HT.out.trans (if_pos hfit))
        clear HREST HIH hfit HT HNN HNF hc
        go_enter Tryz.func19, Tryz.ntmps19
        go_wp2_with (go_at_call 43; refine (in_any _ _ _ _).mono ?_; rintro e w' ⟨rfl, rfl⟩)
        go_ret
        exact ⟨by rw [HF.out]; rfl, HB.out⟩
    have h3' : (k == 3) = false := beq_eq_false_iff_ne.2 h3
    by_cases hc : xs.length = 0
    · have hc1 : ((xs.length : Int) != 0) = false := by simp [hc]
      have hx0 : xs = [] := List.eq_nil_of_length_eq_zero hc
      have HZ : Hid (tyFits k f n xs.length = true → tyFault (.mk k f n xs) d = 0) := fun h => by rw [HT.out, if_neg (by rw [h]; simp), hx0, tysFault]
      have HW : Hid (tyFits k f n xs.length = false → tyFault (.mk k f n xs) d = 4) := fun h => by rw [HT.out, if_pos h]
      by_cases h4 : k = 4
      · subst h4
        have HFit : Hid (tyFits 4 f n xs.length = (identOk n && ((f.toList == []) || identOk f))) := by show _ = _; rw [HNF.out]; simp [tyFits, hc, noneOrIdent]
        clear HREST HIH HT HNN HNF hx0 hc
        cases hi : identOk n
        · rw [hi] at HFit
          have HF := veil (HW.out HFit.out)
          go_enter Tryz.func19, Tryz.ntmps19
          go_wp2_with (go_at_call 43; refine (in_any _ _ _ _).mono ?_; rintro e w' ⟨rfl, rfl⟩)
          refine (nameMay_any n hn _).mono ?_
          rintro e w' ⟨rfl, rfl⟩
          rw [hi]
          go_wp2_with fail
          go_ret
          exact ⟨by rw [HF.out]; rfl, HB.out⟩
        · cases hf1 : (f.toList == [])
          · cases hj : identOk f
            · rw [hi, hf1, hj] at HFit
              have HF := veil (HW.out HFit.out)
              go_enter Tryz.func19, Tryz.ntmps19
              go_wp2_with (go_at_call 43; refine (in_any _ _ _ _).mono ?_; rintro e w' ⟨rfl, rfl⟩)
              refine (nameMay_any n hn _).mono ?_
              rintro e w' ⟨rfl, rfl⟩
              rw [hi]
              go_wp2_with fail
              refine (nameMay_any f hf _).mono ?_
              rintro e w' ⟨rfl, rfl⟩
              rw [hj]
              go_wp2_with fail
              go_ret
              exact ⟨by rw [HF.out]; rfl, HB.out⟩
            · rw [hi, hf1, hj] at HFit
              have HF := veil (HZ.out HFit.out)
              go_enter Tryz.func19, Tryz.ntmps19
              go_wp2_with (go_at_call 43; refine (in_any _ _ _ _).mono ?_; rintro e w' ⟨rfl, rfl⟩)
              refine (nameMay_any n hn _).mono ?_
              rintro e w' ⟨rfl, rfl⟩
              rw [hi]
              go_wp2_with fail
              refine (nameMay_any f hf _).mono ?_
              rintro e w' ⟨rfl, rfl⟩
              rw [hj]
              go_wp2_with fail
              go_ret
              exact ⟨by rw [HF.out]; rfl, HB.out⟩
          · rw [hi, hf1] at HFit
            have HF := veil (HZ.out HFit.out)
            go_enter Tryz.func19, Tryz.ntmps19
            go_wp2_with (go_at_call 43; refine (in_any _ _ _ _).mono ?_; rintro e w' ⟨rfl, rfl⟩)
            refine (nameMay_any n hn _).mono ?_
            rintro e w' ⟨rfl, rfl⟩
            rw [hi]
            go_wp2_with fail
            go_ret
            exact ⟨by rw [HF.out]; rfl, HB.out⟩
      · have h4' : (k == 4) = false := beq_eq_false_iff_ne.2 h4
        have HFit : Hid (tyFits k f n xs.length = ((n.toList == []) && (f.toList == []))) := by show _ = _; rw [HNF.out, HNN.out]; simp [tyFits, hc, h3, h4]
        clear HREST HIH HT HNN HNF hx0 hc h3 h4
        cases hn1 : (n.toList == []) <;> cases hf1 : (f.toList == [])
        case true.true =>
          rw [hn1, hf1] at HFit
          have HF := veil (HZ.out HFit.out)
          go_enter Tryz.func19, Tryz.ntmps19
          go_wp2_with (go_at_call 43; refine (in_any _ _ _ _).mono ?_; rintro e w' ⟨rfl, rfl⟩)
          go_ret
          exact ⟨by rw [HF.out]; rfl, HB.out⟩
        all_goals
          rw [hn1, hf1] at HFit
          have HF := veil (HW.out HFit.out)
          go_enter Tryz.func19, Tryz.ntmps19
          go_wp2_with (go_at_call 43; refine (in_any _ _ _ _).mono ?_; rintro e w' ⟨rfl, rfl⟩)
          go_ret
          exact ⟨by rw [HF.out]; rfl, HB.out⟩
    · have hc1 : ((xs.length : Int) != 0) = true := by rw [bne_iff_ne]; omega
      have hfit : tyFits k f n xs.length = false := by unfold tyFits; rw [if_neg h3]; split <;> simp [hc]
      have HF := veil (HT.out.trans (if_pos hfit))
      clear HREST HIH hfit HT HNN HNF hc h3
      go_enter Tryz.func19, Tryz.ntmps19
      go_wp2_with (go_at_call 43; refine (in_any _ _ _ _).mono ?_; rintro e w' ⟨rfl, rfl⟩)
      go_ret
      exact ⟨by rw [HF.out]; rfl, HB.out⟩

end Go.Proofs.YtcpnfkeoajeodaaGreatDoor

/- What tree.checkExpr answers, at every expression and at every depth: the first fault. -/
namespace Go.Proofs.YtcpnfkeoajeodaaGreatDoor
open Go.RowKit
set_option maxRecDepth 100000

theorem bcell {W w1 : World} (hb : Below W.heap.size W w1) : ∀ b o, b < W.heap.size → w1.cell? ⟨b, o, none⟩ = W.cell? ⟨b, o, none⟩ := fun b o h => hb.cell (p := ⟨b, o, none⟩) h

end Go.Proofs.YtcpnfkeoajeodaaGreatDoor

/- What tree.checkField, checkFunc and Check answer, at every field, function and module: the first fault. -/
namespace Go.Proofs.YtcpnfkeoajeodaaGreatDoor
open Go.RowKit
set_option maxRecDepth 100000

theorem fdIs_first {S : Nat → Prop} {w W : World} (hS : ∀ b, S b → b < w.heap.size) (hb : Below w.heap.size w W) : ∀ b, S b → b < W.heap.size := fun b h => Nat.lt_of_lt_of_le (hS b h) hb.size

end Go.Proofs.YtcpnfkeoajeodaaGreatDoor
