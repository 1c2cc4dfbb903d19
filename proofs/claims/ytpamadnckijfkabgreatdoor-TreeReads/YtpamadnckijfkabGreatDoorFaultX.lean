/- What tree.checkExpr answers, at every expression and at every depth: the first fault. -/
import Derived.Test.YtpamadnckijfkabGreatDoorFaults
namespace Go.Proofs.YtpamadnckijfkabGreatDoor
open Go.RowKit
set_option maxRecDepth 100000

theorem bcell {W w1 : World} (hb : Below W.heap.size W w1) : ∀ b o, b < W.heap.size → w1.cell? ⟨b, o, none⟩ = W.cell? ⟨b, o, none⟩ := fun b o h => hb.cell (p := ⟨b, o, none⟩) h

set_option maxHeartbeats 8000000 in
theorem checkExpr_any : ∀ (m d : Nat), 10 < d + m → ∀ (S : Nat → Prop) (t : Ex) (v : Value) (w : World), d < 1000 → (∀ b, S b → b < w.heap.size) → ExIs S w t v →
    Calls Tryz.prog 79 #[v, .int .i64 d] w fun e w' => e = .returned (.int .i64 (exFault t d)) ∧ Below w.heap.size w w' := by
  intro m
  induction m with
  | zero =>
    rintro d hd S t v w hd1 hS ⟨k, n, f, s, va, rfl, xs, rfl, hf, hs, hsl⟩
    have hd' : (10 : Int) < (d : Int) := by omega
    have HF : Hid (exFault (.mk k n f s xs) d = 1) := by show _ = _; rw [exFault, if_pos (by omega)]
    obtain ⟨a, c, cap, rfl⟩ := hsl.slice
    clear hsl
    go_enter Tryz.func79, Tryz.ntmps79
    go_wp2_with fail
    go_ret
    exact ⟨by rw [HF.out]; rfl, ((Below.refl _ _).alloc (Nat.le_refl _) _).alloc (by simp) _⟩
  | succ m ih =>
    rintro d hd S t v w hd1 hS ⟨k, n, f, s, va, rfl, xs, rfl, hf, hs, hsl⟩
    have HIH := veil ih
    clear ih
    by_cases hd0 : 10 < d
    · have hd' : (10 : Int) < (d : Int) := by omega
      have HF : Hid (exFault (.mk k n f s xs) d = 1) := by show _ = _; rw [exFault, if_pos (by omega)]
      obtain ⟨a, c, cap, rfl⟩ := hsl.slice
      clear hsl
      go_enter Tryz.func79, Tryz.ntmps79
      go_wp2_with fail
      go_ret
      exact ⟨by rw [HF.out]; rfl, ((Below.refl _ _).alloc (Nat.le_refl _) _).alloc (by simp) _⟩
    have hd' : ¬ (10 : Int) < (d : Int) := by omega
    obtain ⟨a, cap, rfl, ⟨hlen, hlenC⟩, hrest⟩ := hsl
    have HSL : Hid (SlAt S (ExAt S w) 5 xs (.slice a xs.length cap)) := ⟨a, cap, rfl, ⟨hlen, hlenC⟩, hrest⟩
    unfold maxLen at hlen
    clear hrest
    have HB : Hid (Below w.heap.size w ((w.alloc (.cells #[.int .i64 k, .int .i64 n, .string f, .string s, .slice a xs.length cap] 52)).alloc (.cells #[.int .i64 d] 3))) := ((Below.refl _ _).alloc (Nat.le_refl _) _).alloc (by simp) _
    cases hk : isIn k 1 7
    · have HF : Hid (exFault (.mk k n f s xs) d = 3) := by show _ = _; rw [exFault, if_neg hd0, if_pos hk]
      have hk2 : k < 1 ∨ 7 < k := by simp [isIn] at hk; omega
      clear hk HSL
      rcases hk2 with hk2 | hk2
      · go_enter Tryz.func79, Tryz.ntmps79
        go_wp2_with fail
        go_ret
        exact ⟨by rw [HF.out]; rfl, HB.out⟩
      · have hk3 : ¬ k < 1 := by omega
        go_enter Tryz.func79, Tryz.ntmps79
        go_wp2_with fail
        go_ret
        exact ⟨by rw [HF.out]; rfl, HB.out⟩
    have hk2 : ¬ k < 1 := by simp [isIn] at hk; omega
    have hk3 : ¬ 7 < k := by simp [isIn] at hk; omega
    by_cases h8 : 8 < xs.length
    · have HF : Hid (exFault (.mk k n f s xs) d = 1) := by show _ = _; rw [exFault, if_neg hd0, if_neg (by rw [hk]; simp), if_pos h8]
      have h8' : (8 : Int) < (xs.length : Int) := by omega
      clear hk HSL
      go_enter Tryz.func79, Tryz.ntmps79
      go_wp2_with fail
      go_ret
      exact ⟨by rw [HF.out]; rfl, HB.out⟩
    have h8' : ¬ (8 : Int) < (xs.length : Int) := by omega
    have HT : Hid (exFault (.mk k n f s xs) d = if (n ≠ 0 ∧ k ≠ 1) ∨ namesFit k f s = false ∨ countFits k xs.length = false then 4 else if isIn n 0 999999 = false then 2 else exsFault xs (d + 1)) := by
      show _ = _; rw [exFault, if_neg hd0, if_neg (by rw [hk]; simp), if_neg h8]
    clear hk
    by_cases h4 : n ≠ 0 ∧ k ≠ 1
    · have HF := veil (HT.out.trans (if_pos (Or.inl h4)))
      have hA : (n != 0) = true := bne_iff_ne.2 h4.1
      have hA' : (k != 1) = true := bne_iff_ne.2 h4.2
      clear h4 HT HSL
      go_enter Tryz.func79, Tryz.ntmps79
      go_wp2_with fail
      go_ret
      exact ⟨by rw [HF.out]; rfl, HB.out⟩
    have hcase : (n != 0) = false ∨ ((n != 0) = true ∧ (k != 1) = false) := by
      by_cases h : n = 0
      · exact Or.inl (by simp [h])
      · refine Or.inr ⟨bne_iff_ne.2 h, ?_⟩
        have : k = 1 := by
          by_cases hk : k = 1
          · exact hk
          · exact absurd ⟨h, hk⟩ h4
        simp [this]
    have hef := makeFunc_run
    cases hnf : namesFit k f s
    · have HF := veil (HT.out.trans (if_pos (Or.inr (Or.inl hnf))))
      clear HT HSL h4
      rcases hcase with hA | ⟨hA, hA'⟩
      all_goals
        go_enter Tryz.func79, Tryz.ntmps79
        go_wp2_with fail
        refine (namesFit_any k n f s _ hf hs _).mono ?_
        rintro e w1 ⟨rfl, hb⟩
        rw [hnf]
        go_wp2
        go_ret
        exact ⟨by rw [HF.out]; rfl, HB.out.trans (hb.mono (by simp; omega))⟩
    cases hcf : countFits k xs.length
    · have HF := veil (HT.out.trans (if_pos (Or.inr (Or.inr hcf))))
      clear HT HSL h4
      rcases hcase with hA | ⟨hA, hA'⟩
      all_goals
        go_enter Tryz.func79, Tryz.ntmps79
        go_wp2_with fail
        refine (namesFit_any k n f s _ hf hs _).mono ?_
        rintro e w1 ⟨rfl, hb⟩
        rw [hnf]
        have hc := bcell hb
        have HB1 := veil (HB.out.trans (hb.mono (by simp; omega)))
        clear hb
        go_wp2_with fail
        refine (countFits_any k n f s a xs.length cap _).mono ?_
        rintro e w2 ⟨rfl, hb2⟩
        rw [hcf]
        go_wp2
        go_ret
        exact ⟨by rw [HF.out]; rfl, HB1.out.trans (hb2.mono HB1.out.size)⟩
    have HT2 := veil (HT.out.trans (if_neg (by rintro (h | h | h); exact h4 h; rw [hnf] at h; cases h; rw [hcf] at h; cases h)))
    clear HT h4
    cases hr : isIn n 0 999999
    · have HF := veil (HT2.out.trans (if_pos hr))
      have hr2 : n < 0 ∨ (¬ n < 0 ∧ 999999 < n) := by simp [isIn] at hr; omega
      clear HT2 HSL hr
      rcases hcase with hA | ⟨hA, hA'⟩ <;> rcases hr2 with hr2 | ⟨hr3, hr2⟩
      all_goals
        go_enter Tryz.func79, Tryz.ntmps79
        go_wp2_with fail
        refine (namesFit_any k n f s _ hf hs _).mono ?_
        rintro e w1 ⟨rfl, hb⟩
        rw [hnf]
        have hc := bcell hb
        have HB1 := veil (HB.out.trans (hb.mono (by simp; omega)))
        have hs1 : w.heap.size + 2 ≤ w1.heap.size := by have := hb.size; simp at this; omega
        have hz1 : w.heap.size < w1.heap.size := by omega
        clear hb
        go_wp2_with fail
        refine (countFits_any k n f s a xs.length cap _).mono ?_
        rintro e w2 ⟨rfl, hb2⟩
        rw [hcf]
        have hc2 := bcell hb2
        have HB2 := veil (HB1.out.trans (hb2.mono HB1.out.size))
        clear hb2
        go_wp2
        go_ret
        exact ⟨by rw [HF.out]; rfl, HB2.out⟩
    have HF := veil (HT2.out.trans ((if_neg (by rw [hr]; simp)).trans (exsFault_first xs (d + 1))))
    have hr2 : ¬ n < 0 := by simp [isIn] at hr; omega
    have hr3 : ¬ 999999 < n := by simp [isIn] at hr; omega
    clear HT2 hr
    rcases hcase with hA | ⟨hA, hA'⟩
    all_goals
      go_enter Tryz.func79, Tryz.ntmps79
      go_wp2_with fail
      refine (namesFit_any k n f s _ hf hs _).mono ?_
      rintro e w1 ⟨rfl, hb⟩
      rw [hnf]
      have hc := bcell hb
      have HB1 := veil (HB.out.trans (hb.mono (by simp; omega)))
      have hs1 : w.heap.size + 2 ≤ w1.heap.size := by have := hb.size; simp at this; omega
      have hz1 : w.heap.size < w1.heap.size := by omega
      clear hb
      go_wp2_with fail
      refine (countFits_any k n f s a xs.length cap _).mono ?_
      rintro e w2 ⟨rfl, hb2⟩
      rw [hcf]
      have hc2 := bcell hb2
      have HB2 := veil (HB1.out.trans (hb2.mono HB1.out.size))
      have hs2 : w.heap.size + 2 ≤ w2.heap.size := by have := hb2.size; omega
      have hcd : w2.cell? ⟨w.heap.size + 1, 0, none⟩ = some (.int .i64 d) := (hc2 _ _ (by omega)).trans ((hc _ _ (by simp)).trans (World.cell?_alloc_at _ _ _ _ (by simp)))
      have HCD := veil hcd
      clear hb2 hcd
      go_wp2_with fail
      refine (first_ex 119 #[.pointer (some ⟨w.heap.size + 1, 0, none⟩)] (enters_of Tryz.func119 (by kernel_rfl) rfl) (fun t => exFault t (d + 1)) S xs _ w2 (fun b h => by have := hS b h; omega) (exSl_keep (Keeps.below HB2.out hS) HSL.out) ?_).mono ?_
      · clear hc hc2
        rintro t ht W u hbW ⟨k', n', f', s', va', rfl, hcs⟩
        have hcd : W.cell? ⟨w.heap.size + 1, 0, none⟩ = some (.int .i64 d) := (hbW.cell (by show w.heap.size + 1 < w2.heap.size; omega)).trans HCD.out
        have hne : w.heap.size + 1 < W.heap.size := by have := hbW.size; omega
        obtain ⟨va1, va2, va3, rfl⟩ := hcs.slice
        have hws := hbW.size
        have hSW : ∀ b, S b → b < W.heap.size := fun b h => by have := hS b h; omega
        have HC := veil (hcs.keep (Keeps.below ((Below.refl W.heap.size W).alloc (Nat.le_refl _) (.cells #[.int .i64 k', .int .i64 n', .string f', .string s', .slice va1 va2 va3] 52)) hSW))
        have HBW : Hid (Below W.heap.size W (W.alloc (.cells #[.int .i64 k', .int .i64 n', .string f', .string s', .slice va1 va2 va3] 52))) := (Below.refl _ _).alloc (Nat.le_refl _) _
        have cI := HIH.out (d + 1) (by omega) S t _ _ (by omega) (fun b h => by have := hSW b h; simp; omega) ⟨_, _, _, _, _, rfl, HC.out⟩
        have en : ((d + 1 : Nat) : Int) = (d : Int) + 1 := by omega
        rw [en] at cI
        clear HIH HC hcs
        go_enter Tryz.func119, Tryz.ntmps119
        go_wp2_with fail
        refine cI.mono ?_
        rintro e w3 ⟨rfl, hb3⟩
        go_wp2
        go_ret
        exact ⟨rfl, HBW.out.trans (hb3.mono (by simp))⟩
      · rintro e w3 ⟨rfl, hb3⟩
        go_wp2
        go_ret
        exact ⟨by rw [HF.out]; rfl, HB2.out.trans (hb3.mono (by omega))⟩

end Go.Proofs.YtpamadnckijfkabGreatDoor
