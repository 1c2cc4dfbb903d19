import Derived.Test.YtagbaimfigljiaaGreatDoorJCk2
import Derived.Test.YtagbaimfigljiaaGreatDoorJCk10
import Derived.Test.YtagbaimfigljiaaGreatDoorJCk0
import Derived.Lib.Bytealg
import Derived.Deep.Slices
import Derived.SizedLaws
import Derived.ProofKit
namespace Go.Proofs.YtagbaimfigljiaaGreatDoor
open Go.RowKit
set_option maxRecDepth 100000

theorem bcell {W w1 : World} (hb : Below W.heap.size W w1) : ∀ b o, b < W.heap.size → w1.cell? ⟨b, o, none⟩ = W.cell? ⟨b, o, none⟩ := fun b o h => hb.cell (p := ⟨b, o, none⟩) h

set_option maxHeartbeats 8000000 in
theorem checkExpr_any : ∀ (m d : Nat), 10 < d + m → ∀ (S : Nat → Prop) (t : Ex) (v : Value) (w : World), d < 1000 → (∀ b, S b → b < w.heap.size) → ExIs S w t v →
    Calls Tryz.prog 172 #[v, .int .i64 d] w fun e w' => e = .returned (.int .i64 (exFault t d)) ∧ Below w.heap.size w w' := by
  intro m
  induction m with
  | zero =>
    rintro d hd S t v w hd1 hS ⟨k, n, f, s, va, rfl, xs, rfl, hf, hs, hsl⟩
    have hd' : (10 : Int) < (d : Int) := by omega
    have HF : Hid (exFault (.mk k n f s xs) d = 1) := by show _ = _; rw [exFault, if_pos (by omega)]
    obtain ⟨a, c, cap, rfl⟩ := hsl.slice
    clear hsl
    go_enter Tryz.func172, Tryz.ntmps172
    go_wp2_with fail
    go_ret
    exact ⟨by rw [HF.out]; rfl, ((Below.refl _ _).alloc (Nat.le_refl _) _).alloc (by simp) _⟩
  | succ m ih =>
    rintro d hd S t v w hd1 hS ⟨k, n, f, s, va, rfl, xs, rfl, hf, hs, hsl⟩
    have HIH := veil ih
    clear ih
    by_cases hd0 : 10 < d
    · have hd' : (10 : Int) < (d : Int) := by omega
      have HF : Hid (exFault (.mk k n f s xs) d = 1) := by show _ = _; rw [exFault, if_pos (by omega)]
      obtain ⟨a, c, cap, rfl⟩ := hsl.slice
      clear hsl
      go_enter Tryz.func172, Tryz.ntmps172
      go_wp2_with fail
      go_ret
      exact ⟨by rw [HF.out]; rfl, ((Below.refl _ _).alloc (Nat.le_refl _) _).alloc (by simp) _⟩
    have hd' : ¬ (10 : Int) < (d : Int) := by omega
    obtain ⟨a, cap, rfl, ⟨hlen, hlenC⟩, hrest⟩ := hsl
    have HSL : Hid (SlAt S (ExAt S w) 5 xs (.slice a xs.length cap)) := ⟨a, cap, rfl, ⟨hlen, hlenC⟩, hrest⟩
    unfold maxLen at hlen
    clear hrest
    have HB : Hid (Below w.heap.size w ((w.alloc (.cells #[.int .i64 k, .int .i64 n, .string f, .string s, .slice a xs.length cap] 87)).alloc (.cells #[.int .i64 d] 3))) := ((Below.refl _ _).alloc (Nat.le_refl _) _).alloc (by simp) _
    cases hk : isIn k 1 7
    · have HF : Hid (exFault (.mk k n f s xs) d = 3) := by show _ = _; rw [exFault, if_neg hd0, if_pos hk]
      have hk2 : k < 1 ∨ 7 < k := by simp [isIn] at hk; omega
      clear hk HSL
      rcases hk2 with hk2 | hk2
      · go_enter Tryz.func172, Tryz.ntmps172
        go_wp2_with fail
        go_ret
        exact ⟨by rw [HF.out]; rfl, HB.out⟩
      · have hk3 : ¬ k < 1 := by omega
        go_enter Tryz.func172, Tryz.ntmps172
        go_wp2_with fail
        go_ret
        exact ⟨by rw [HF.out]; rfl, HB.out⟩
    have hk2 : ¬ k < 1 := by simp [isIn] at hk; omega
    have hk3 : ¬ 7 < k := by simp [isIn] at hk; omega
    by_cases h8 : 8 < xs.length
    · have HF : Hid (exFault (.mk k n f s xs) d = 1) := by show _ = _; rw [exFault, if_neg hd0, if_neg (by rw [hk]; simp), if_pos h8]
      have h8' : (8 : Int) < (xs.length : Int) := by omega
      clear hk HSL
      go_enter Tryz.func172, Tryz.ntmps172
      go_wp2_with fail
      go_ret
      exact ⟨by rw [HF.out]; rfl, HB.out⟩
    have h8' : ¬ (8 : Int) < (xs.length : Int) := by omega
    have HT : Hid (exFault (.mk k n f s xs) d = if (n ≠ 0 ∧ k ≠ 1) ∨ namesFit k f s = false ∨ countFits k xs.length = false then 4 else if isIn n 0 999999 = false then 2 else exsFault xs (d + 1)) := by
      show _ = _; rw [exFault, if_neg hd0, if_neg (by rw [hk]; simp), if_neg h8]
    clear hk
    by_cases h4 : n ≠ 0 ∧ k ≠ 1
    · have HF := veil (HT.out.trans (if_pos (Or.inl h4)))
      have hA : (n != 0) = true := bne_iff_ne.2 h4.1
      have hA' : (k != 1) = true := bne_iff_ne.2 h4.2
      clear h4 HT HSL
      go_enter Tryz.func172, Tryz.ntmps172
      go_wp2_with fail
      go_ret
      exact ⟨by rw [HF.out]; rfl, HB.out⟩
    have hcase : (n != 0) = false ∨ ((n != 0) = true ∧ (k != 1) = false) := by
      by_cases h : n = 0
      · exact Or.inl (by simp [h])
      · refine Or.inr ⟨bne_iff_ne.2 h, ?_⟩
        have : k = 1 := by
          by_cases hk : k = 1
          · exact hk
          · exact absurd ⟨h, hk⟩ h4
        simp [this]
    have hef := makeFunc_run
    cases hnf : namesFit k f s
    · have HF := veil (HT.out.trans (if_pos (Or.inr (Or.inl hnf))))
      clear HT HSL h4
      rcases hcase with hA | ⟨hA, hA'⟩
      all_goals
        go_enter Tryz.func172, Tryz.ntmps172
        go_wp2_with fail
        refine (namesFit_any k n f s _ hf hs _).mono ?_
        rintro e w1 ⟨rfl, hb⟩
        rw [hnf]
        go_wp2
        go_ret
        exact ⟨by rw [HF.out]; rfl, HB.out.trans (hb.mono (by simp; omega))⟩
    cases hcf : countFits k xs.length
    · have HF := veil (HT.out.trans (if_pos (Or.inr (Or.inr hcf))))
      clear HT HSL h4
      rcases hcase with hA | ⟨hA, hA'⟩
      all_goals
        go_enter Tryz.func172, Tryz.ntmps172
        go_wp2_with fail
        refine (namesFit_any k n f s _ hf hs _).mono ?_
        rintro e w1 ⟨rfl, hb⟩
        rw [hnf]
        have hc := bcell hb
        have HB1 := veil (HB.out.trans (hb.mono (by simp; omega)))
        clear hb
        go_wp2_with fail
        refine (countFits_any k n f s a xs.length cap _).mono ?_
        rintro e w2 ⟨rfl, hb2⟩
        rw [hcf]
        go_wp2
        go_ret
        exact ⟨by rw [HF.out]; rfl, HB1.out.trans (hb2.mono HB1.out.size)⟩
    have HT2 := veil (HT.out.trans (if_neg (by rintro (h | h | h); exact h4 h; rw [hnf] at h; cases h; rw [hcf] at h; cases h)))
    clear HT h4
    cases hr : isIn n 0 999999
    · have HF := veil (HT2.out.trans (if_pos hr))
      have hr2 : n < 0 ∨ (¬ n < 0 ∧ 999999 < n) := by simp [isIn] at hr; omega
      clear HT2 HSL hr
      rcases hcase with hA | ⟨hA, hA'⟩ <;> rcases hr2 with hr2 | ⟨hr3, hr2⟩
      all_goals
        go_enter Tryz.func172, Tryz.ntmps172
        go_wp2_with fail
        refine (namesFit_any k n f s _ hf hs _).mono ?_
        rintro e w1 ⟨rfl, hb⟩
        rw [hnf]
        have hc := bcell hb
        have HB1 := veil (HB.out.trans (hb.mono (by simp; omega)))
        have hs1 : w.heap.size + 2 ≤ w1.heap.size := by have := hb.size; simp at this; omega
        have hz1 : w.heap.size < w1.heap.size := by omega
        clear hb
        go_wp2_with fail
        refine (countFits_any k n f s a xs.length cap _).mono ?_
        rintro e w2 ⟨rfl, hb2⟩
        rw [hcf]
        have hc2 := bcell hb2
        have HB2 := veil (HB1.out.trans (hb2.mono HB1.out.size))
        clear hb2
        go_wp2
        go_ret
        exact ⟨by rw [HF.out]; rfl, HB2.out⟩
    have HF := veil (HT2.out.trans ((if_neg (by rw [hr]; simp)).trans (exsFault_first xs (d + 1))))
    have hr2 : ¬ n < 0 := by simp [isIn] at hr; omega
    have hr3 : ¬ 999999 < n := by simp [isIn] at hr; omega
    clear HT2 hr
    rcases hcase with hA | ⟨hA, hA'⟩
    all_goals
      go_enter Tryz.func172, Tryz.ntmps172
      go_wp2_with fail
      refine (namesFit_any k n f s _ hf hs _).mono ?_
      rintro e w1 ⟨rfl, hb⟩
      rw [hnf]
      have hc := bcell hb
      have HB1 := veil (HB.out.trans (hb.mono (by simp; omega)))
      have hs1 : w.heap.size + 2 ≤ w1.heap.size := by have := hb.size; simp at this; omega
      have hz1 : w.heap.size < w1.heap.size := by omega
      clear hb
      go_wp2_with fail
      refine (countFits_any k n f s a xs.length cap _).mono ?_
      rintro e w2 ⟨rfl, hb2⟩
      rw [hcf]
      have hc2 := bcell hb2
      have HB2 := veil (HB1.out.trans (hb2.mono HB1.out.size))
      have hs2 : w.heap.size + 2 ≤ w2.heap.size := by have := hb2.size; omega
      have hcd : w2.cell? ⟨w.heap.size + 1, 0, none⟩ = some (.int .i64 d) := (hc2 _ _ (by omega)).trans ((hc _ _ (by simp)).trans (World.cell?_alloc_at _ _ _ _ (by simp)))
      have HCD := veil hcd
      clear hb2 hcd
      go_wp2_with fail
      refine (first_ex 248 #[.pointer (some ⟨w.heap.size + 1, 0, none⟩)] (enters_of Tryz.func248 (by kernel_rfl) rfl) (fun t => exFault t (d + 1)) S xs _ w2 (fun b h => by have := hS b h; omega) (exSl_keep (Keeps.below HB2.out hS) HSL.out) ?_).mono ?_
      · clear hc hc2
        rintro t ht W u hbW ⟨k', n', f', s', va', rfl, hcs⟩
        have hcd : W.cell? ⟨w.heap.size + 1, 0, none⟩ = some (.int .i64 d) := (hbW.cell (by show w.heap.size + 1 < w2.heap.size; omega)).trans HCD.out
        have hne : w.heap.size + 1 < W.heap.size := by have := hbW.size; omega
        obtain ⟨va1, va2, va3, rfl⟩ := hcs.slice
        have hws := hbW.size
        have hSW : ∀ b, S b → b < W.heap.size := fun b h => by have := hS b h; omega
        have HC := veil (hcs.keep (Keeps.below ((Below.refl W.heap.size W).alloc (Nat.le_refl _) (.cells #[.int .i64 k', .int .i64 n', .string f', .string s', .slice va1 va2 va3] 87)) hSW))
        have HBW : Hid (Below W.heap.size W (W.alloc (.cells #[.int .i64 k', .int .i64 n', .string f', .string s', .slice va1 va2 va3] 87))) := (Below.refl _ _).alloc (Nat.le_refl _) _
        have cI := HIH.out (d + 1) (by omega) S t _ _ (by omega) (fun b h => by have := hSW b h; simp; omega) ⟨_, _, _, _, _, rfl, HC.out⟩
        have en : ((d + 1 : Nat) : Int) = (d : Int) + 1 := by omega
        rw [en] at cI
        clear HIH HC hcs
        go_enter Tryz.func248, Tryz.ntmps248
        go_wp2_with fail
        refine cI.mono ?_
        rintro e w3 ⟨rfl, hb3⟩
        go_wp2
        go_ret
        exact ⟨rfl, HBW.out.trans (hb3.mono (by simp))⟩
      · rintro e w3 ⟨rfl, hb3⟩
        go_wp2
        go_ret
        exact ⟨by rw [HF.out]; rfl, HB2.out.trans (hb3.mono (by omega))⟩

end Go.Proofs.YtagbaimfigljiaaGreatDoor
namespace Go.Proofs.YtagbaimfigljiaaGreatDoor
open Go.RowKit
set_option maxRecDepth 100000

theorem checkUse_any (s : ByteArray) (hs : s.size ≤ maxLen) (w : World) : Calls Tryz.prog 96 #[.string s] w fun e w' => e = .returned (.int .i64 (useFault s)) ∧ Below w.heap.size w w' := by
  have HT : Hid (useFault s = if identOk s = true then 0 else 4) := rfl
  cases h : identOk s
  · rw [if_neg (by rw [h]; simp)] at HT
    go_enter Tryz.func96, Tryz.ntmps96
    go_wp2_with fail
    refine (ident_any s hs _).mono ?_
    rintro e w1 ⟨rfl, hb⟩
    rw [h]
    go_wp2
    go_ret
    exact ⟨by rw [HT.out]; rfl, hb⟩
  · rw [if_pos h] at HT
    go_enter Tryz.func96, Tryz.ntmps96
    go_wp2_with fail
    refine (ident_any s hs _).mono ?_
    rintro e w1 ⟨rfl, hb⟩
    rw [h]
    go_wp2
    go_ret
    exact ⟨by rw [HT.out]; rfl, hb⟩

set_option maxHeartbeats 1000000 in
theorem checkField_any (S : Nat → Prop) (x : Fd) (v : Value) (w : World) (hS : ∀ b, S b → b < w.heap.size) (hx : FdIs S w x v) :
    Calls Tryz.prog 98 #[v] w fun e w' => e = .returned (.int .i64 (fdFault x)) ∧ Below w.heap.size w w' := by
  obtain ⟨k, f, n, va, rfl, hsz, hcs⟩ := hx
  obtain ⟨va1, va2, va3, rfl⟩ := hcs.slice
  have HT : Hid (fdFault x = if identOk x.name = true then tyFault x.is 1 else 4) := rfl
  have HB : Hid (Below w.heap.size w (w.alloc (.cells #[.string x.name, .int .i64 k, .string f, .string n, .slice va1 va2 va3] 101))) := (Below.refl _ _).alloc (Nat.le_refl _) _
  cases h : identOk x.name
  · rw [if_neg (by rw [h]; simp)] at HT
    go_enter Tryz.func98, Tryz.ntmps98
    go_wp2_with fail
    refine (ident_any x.name hsz _).mono ?_
    rintro e w1 ⟨rfl, hb⟩
    rw [h]
    go_wp2
    go_ret
    exact ⟨by rw [HT.out]; rfl, HB.out.trans (hb.mono (by simp))⟩
  · rw [if_pos h] at HT
    have HC := veil hcs
    clear hcs
    go_enter Tryz.func98, Tryz.ntmps98
    go_wp2_with fail
    refine (ident_any x.name hsz _).mono ?_
    rintro e w1 ⟨rfl, hb⟩
    rw [h]
    have hc := bcell hb
    have HB1 := veil (HB.out.trans (hb.mono (by simp)))
    clear hb
    go_wp2_with fail
    refine (checkType_any 10 1 (by omega) S x.is _ w1 (by omega) (fun b h => Nat.lt_of_lt_of_le (hS b h) HB1.out.size) ⟨k, f, n, _, rfl, HC.out.keep (Keeps.below HB1.out hS)⟩).mono ?_
    rintro e w2 ⟨rfl, hb2⟩
    go_wp2
    go_ret
    exact ⟨by rw [HT.out]; rfl, HB1.out.trans (hb2.mono HB1.out.size)⟩

theorem fdIs_first {S : Nat → Prop} {w W : World} (hS : ∀ b, S b → b < w.heap.size) (hb : Below w.heap.size w W) : ∀ b, S b → b < W.heap.size := fun b h => Nat.lt_of_lt_of_le (hS b h) hb.size

set_option maxHeartbeats 4000000 in
theorem checkFunc_any (S : Nat → Prop) (x : Fu) (v : Value) (w : World) (hS : ∀ b, S b → b < w.heap.size) (hx : FuIs S w x v) :
    Calls Tryz.prog 100 #[v] w fun e w' => e = .returned (.int .i64 (fuFault x)) ∧ Below w.heap.size w w' := by
  obtain ⟨vp, k, f, n, va, k', n', f', s', va', rfl, hsz, hsz1, hps, hcs, hce⟩ := hx
  obtain ⟨va1, va2, va3, rfl⟩ := hcs.slice
  obtain ⟨ve1, ve2, ve3, rfl⟩ := hce.slice
  obtain ⟨vp1, vp3, rfl, ⟨hplen, hplenC⟩, hprest⟩ := hps
  have HP : Hid (SlAt S (FdAt S w) 5 x.params (.slice vp1 x.params.length vp3)) := ⟨vp1, vp3, rfl, ⟨hplen, hplenC⟩, hprest⟩
  unfold maxLen at hplen
  have HC := veil hcs
  have HE := veil hce
  clear hcs hce hprest
  have HT : Hid (fuFault x = if identOk x.name = false ∨ noneOrIdent x.var = false then 4 else if 8 < x.params.length then 1 else
    if firstBad fdFault x.params ≠ 0 then firstBad fdFault x.params else if tyFault x.result 1 ≠ 0 then tyFault x.result 1 else exFault x.body 1) := rfl
  have HB : Hid (Below w.heap.size w (w.alloc (.cells #[.string x.name, .string x.var, .slice vp1 x.params.length vp3, .int .i64 k, .string f, .string n, .slice va1 va2 va3, .int .i64 k', .int .i64 n', .string f', .string s', .slice ve1 ve2 ve3] 89))) := (Below.refl _ _).alloc (Nat.le_refl _) _
  cases h : identOk x.name
  · rw [if_pos (Or.inl h)] at HT
    go_enter Tryz.func100, Tryz.ntmps100
    go_wp2_with fail
    refine (ident_any x.name hsz _).mono ?_
    rintro e w1 ⟨rfl, hb⟩
    rw [h]
    go_wp2
    go_ret
    exact ⟨by rw [HT.out]; rfl, HB.out.trans (hb.mono (by simp))⟩
  cases h2 : noneOrIdent x.var
  · rw [if_pos (Or.inr h2)] at HT
    go_enter Tryz.func100, Tryz.ntmps100
    go_wp2_with fail
    refine (ident_any x.name hsz _).mono ?_
    rintro e w1 ⟨rfl, hb⟩
    rw [h]
    have hc := bcell hb
    have HB1 := veil (HB.out.trans (hb.mono (by simp)))
    clear hb
    go_wp2_with fail
    refine (emptyOrIdent_any x.var hsz1 _).mono ?_
    rintro e w2 ⟨rfl, hb2⟩
    rw [h2]
    go_wp2
    go_ret
    exact ⟨by rw [HT.out]; rfl, HB1.out.trans (hb2.mono HB1.out.size)⟩
  rw [if_neg (by rw [h, h2]; simp)] at HT
  by_cases h8 : 8 < x.params.length
  · rw [if_pos h8] at HT
    have h8' : (8 : Int) < (x.params.length : Int) := by omega
    go_enter Tryz.func100, Tryz.ntmps100
    go_wp2_with fail
    refine (ident_any x.name hsz _).mono ?_
    rintro e w1 ⟨rfl, hb⟩
    rw [h]
    have hc := bcell hb
    have hz1 : w.heap.size < w1.heap.size := by have := hb.size; simp at this; omega
    have HB1 := veil (HB.out.trans (hb.mono (by simp)))
    clear hb
    go_wp2_with fail
    refine (emptyOrIdent_any x.var hsz1 _).mono ?_
    rintro e w2 ⟨rfl, hb2⟩
    rw [h2]
    have hc2 := bcell hb2
    go_wp2
    go_ret
    exact ⟨by rw [HT.out]; rfl, HB1.out.trans (hb2.mono HB1.out.size)⟩
  have h8' : ¬ (8 : Int) < (x.params.length : Int) := by omega
  rw [if_neg h8] at HT
  clear h8
  by_cases hp : firstBad fdFault x.params = 0
  rotate_left
  · rw [if_pos hp] at HT
    have hp' : (firstBad fdFault x.params != 0) = true := bne_iff_ne.2 hp
    clear hp
    go_enter Tryz.func100, Tryz.ntmps100
    go_wp2_with fail
    refine (ident_any x.name hsz _).mono ?_
    rintro e w1 ⟨rfl, hb⟩
    rw [h]
    have hc := bcell hb
    have hz1 : w.heap.size < w1.heap.size := by have := hb.size; simp at this; omega
    have HB1 := veil (HB.out.trans (hb.mono (by simp)))
    clear hb
    go_wp2_with fail
    refine (emptyOrIdent_any x.var hsz1 _).mono ?_
    rintro e w2 ⟨rfl, hb2⟩
    rw [h2]
    have hc2 := bcell hb2
    have HB2 := veil (HB1.out.trans (hb2.mono HB1.out.size))
    clear hb2
    go_wp2_with fail
    refine (first_fd 98 #[] (enters_of Tryz.func98 (by kernel_rfl) rfl) fdFault S x.params _ w2 (fdIs_first hS HB2.out) (fdSl_keep (Keeps.below HB2.out hS) HP.out)
      (fun t _ W u hbW hu => checkField_any S t u W (fdIs_first (fdIs_first hS HB2.out) hbW) hu)).mono ?_
    rintro e w3 ⟨rfl, hb3⟩
    go_wp2
    go_ret
    exact ⟨by rw [HT.out]; rfl, HB2.out.trans (hb3.mono HB2.out.size)⟩
  rw [if_neg (by rw [hp]; simp)] at HT
  have hp' : (firstBad fdFault x.params != 0) = false := by rw [hp]; rfl
  by_cases hr : tyFault x.result 1 = 0
  rotate_left
  · rw [if_pos hr] at HT
    have hr' : (tyFault x.result 1 != 0) = true := bne_iff_ne.2 hr
    clear hr hp
    go_enter Tryz.func100, Tryz.ntmps100
    go_wp2_with fail
    refine (ident_any x.name hsz _).mono ?_
    rintro e w1 ⟨rfl, hb⟩
    rw [h]
    have hc := bcell hb
    have hz1 : w.heap.size < w1.heap.size := by have := hb.size; simp at this; omega
    have HB1 := veil (HB.out.trans (hb.mono (by simp)))
    clear hb
    go_wp2_with fail
    refine (emptyOrIdent_any x.var hsz1 _).mono ?_
    rintro e w2 ⟨rfl, hb2⟩
    rw [h2]
    have hc2 := bcell hb2
    have hz2 : w.heap.size < w2.heap.size := Nat.lt_of_lt_of_le hz1 hb2.size
    have HB2 := veil (HB1.out.trans (hb2.mono HB1.out.size))
    clear hb2
    go_wp2_with fail
    refine (first_fd 98 #[] (enters_of Tryz.func98 (by kernel_rfl) rfl) fdFault S x.params _ w2 (fdIs_first hS HB2.out) (fdSl_keep (Keeps.below HB2.out hS) HP.out)
      (fun t _ W u hbW hu => checkField_any S t u W (fdIs_first (fdIs_first hS HB2.out) hbW) hu)).mono ?_
    rintro e w3 ⟨rfl, hb3⟩
    have hc3 := bcell hb3
    have HB3 := veil (HB2.out.trans (hb3.mono HB2.out.size))
    clear hb3
    go_wp2_with fail
    refine (checkType_any 10 1 (by omega) S x.result _ w3 (by omega) (fdIs_first hS HB3.out) ⟨k, f, n, _, rfl, HC.out.keep (Keeps.below HB3.out hS)⟩).mono ?_
    rintro e w4 ⟨rfl, hb4⟩
    go_wp2
    go_ret
    exact ⟨by rw [HT.out]; rfl, HB3.out.trans (hb4.mono HB3.out.size)⟩
  rw [if_neg (by rw [hr]; simp)] at HT
  have hr' : (tyFault x.result 1 != 0) = false := by rw [hr]; rfl
  clear hr hp
  go_enter Tryz.func100, Tryz.ntmps100
  go_wp2_with fail
  refine (ident_any x.name hsz _).mono ?_
  rintro e w1 ⟨rfl, hb⟩
  rw [h]
  have hc := bcell hb
  have hz1 : w.heap.size < w1.heap.size := by have := hb.size; simp at this; omega
  have HB1 := veil (HB.out.trans (hb.mono (by simp)))
  clear hb
  go_wp2_with fail
  refine (emptyOrIdent_any x.var hsz1 _).mono ?_
  rintro e w2 ⟨rfl, hb2⟩
  rw [h2]
  have hc2 := bcell hb2
  have hz2 : w.heap.size < w2.heap.size := Nat.lt_of_lt_of_le hz1 hb2.size
  have HB2 := veil (HB1.out.trans (hb2.mono HB1.out.size))
  clear hb2
  go_wp2_with fail
  refine (first_fd 98 #[] (enters_of Tryz.func98 (by kernel_rfl) rfl) fdFault S x.params _ w2 (fdIs_first hS HB2.out) (fdSl_keep (Keeps.below HB2.out hS) HP.out)
    (fun t _ W u hbW hu => checkField_any S t u W (fdIs_first (fdIs_first hS HB2.out) hbW) hu)).mono ?_
  rintro e w3 ⟨rfl, hb3⟩
  have hc3 := bcell hb3
  have hz3 : w.heap.size < w3.heap.size := Nat.lt_of_lt_of_le hz2 hb3.size
  have HB3 := veil (HB2.out.trans (hb3.mono HB2.out.size))
  clear hb3
  go_wp2_with fail
  refine (checkType_any 10 1 (by omega) S x.result _ w3 (by omega) (fdIs_first hS HB3.out) ⟨k, f, n, _, rfl, HC.out.keep (Keeps.below HB3.out hS)⟩).mono ?_
  rintro e w4 ⟨rfl, hb4⟩
  have hc4 := bcell hb4
  have HB4 := veil (HB3.out.trans (hb4.mono HB3.out.size))
  clear hb4
  go_wp2_with fail
  refine (checkExpr_any 10 1 (by omega) S x.body _ w4 (by omega) (fdIs_first hS HB4.out) ⟨k', n', f', s', _, rfl, HE.out.keep (Keeps.below HB4.out hS)⟩).mono ?_
  rintro e w5 ⟨rfl, hb5⟩
  go_wp2
  go_ret
  exact ⟨by rw [HT.out]; rfl, HB4.out.trans (hb5.mono HB4.out.size)⟩

set_option maxHeartbeats 4000000 in
theorem treeCheck_any (S : Nat → Prop) (x : Mo) (v : Value) (w : World) (hS : ∀ b, S b → b < w.heap.size) (hx : MoIs S w x v) :
    Calls Tryz.prog 42 #[v] w fun e w' => e = .returned (.int .i64 (moFault x)) ∧ Below w.heap.size w w' := by
  obtain ⟨vu, vt, vf, rfl, hu, ht, hf⟩ := hx
  obtain ⟨u1, u3, rfl, ⟨hul, hulC⟩, hur⟩ := hu
  obtain ⟨t1, t3, rfl, ⟨htl, htlC⟩, htr⟩ := ht
  obtain ⟨f1, f3, rfl, ⟨hfl, hflC⟩, hfr⟩ := hf
  have HU : Hid (SlAt S (StrAt w) 1 x.uses (.slice u1 x.uses.length u3)) := ⟨u1, u3, rfl, ⟨hul, hulC⟩, hur⟩
  have HTy : Hid (SlAt S (FdAt S w) 5 x.types (.slice t1 x.types.length t3)) := ⟨t1, t3, rfl, ⟨htl, htlC⟩, htr⟩
  have HFu : Hid (SlAt S (FuAt S w) 12 x.funcs (.slice f1 x.funcs.length f3)) := ⟨f1, f3, rfl, ⟨hfl, hflC⟩, hfr⟩
  clear hur htr hfr hul htl hfl
  have HT : Hid (moFault x = if 24 < wrap64 (wrap64 ((x.uses.length : Int) + x.types.length) + x.funcs.length) then 1 else
    if firstBad useFault x.uses ≠ 0 then firstBad useFault x.uses else if firstBad fdFault x.types ≠ 0 then firstBad fdFault x.types else firstBad fuFault x.funcs) := rfl
  have HB : Hid (Below w.heap.size w (w.alloc (.cells #[.slice u1 x.uses.length u3, .slice t1 x.types.length t3, .slice f1 x.funcs.length f3] 44))) := (Below.refl _ _).alloc (Nat.le_refl _) _
  by_cases h24 : 24 < wrap64 (wrap64 ((x.uses.length : Int) + x.types.length) + x.funcs.length)
  · rw [if_pos h24] at HT
    go_enter Tryz.func42, Tryz.ntmps42
    go_wp2_with fail
    go_ret
    exact ⟨by rw [HT.out]; rfl, HB.out⟩
  rw [if_neg h24] at HT
  by_cases hp : firstBad useFault x.uses = 0
  rotate_left
  · rw [if_pos hp] at HT
    have hp' : (firstBad useFault x.uses != 0) = true := bne_iff_ne.2 hp
    clear hp
    go_enter Tryz.func42, Tryz.ntmps42
    go_wp2_with fail
    refine (first_str 96 #[] (enters_of Tryz.func96 (by kernel_rfl) rfl) useFault S x.uses _ _ (fdIs_first hS HB.out) (strSl_keep (Keeps.below HB.out hS) HU.out) (fun t _ W u hbW hu => by obtain ⟨rfl, hz⟩ := hu; exact checkUse_any t hz W)).mono ?_
    rintro e w1 ⟨rfl, hb⟩
    go_wp2
    go_ret
    exact ⟨by rw [HT.out]; rfl, HB.out.trans (hb.mono (by simp))⟩
  rw [if_neg (by rw [hp]; simp)] at HT
  have hp' : (firstBad useFault x.uses != 0) = false := by rw [hp]; rfl
  clear hp
  by_cases hq : firstBad fdFault x.types = 0
  rotate_left
  · rw [if_pos hq] at HT
    have hq' : (firstBad fdFault x.types != 0) = true := bne_iff_ne.2 hq
    clear hq
    go_enter Tryz.func42, Tryz.ntmps42
    go_wp2_with fail
    refine (first_str 96 #[] (enters_of Tryz.func96 (by kernel_rfl) rfl) useFault S x.uses _ _ (fdIs_first hS HB.out) (strSl_keep (Keeps.below HB.out hS) HU.out) (fun t _ W u hbW hu => by obtain ⟨rfl, hz⟩ := hu; exact checkUse_any t hz W)).mono ?_
    rintro e w1 ⟨rfl, hb⟩
    have hc := bcell hb
    have HB1 := veil (HB.out.trans (hb.mono (by simp)))
    clear hb
    go_wp2_with fail
    refine (first_fd 98 #[] (enters_of Tryz.func98 (by kernel_rfl) rfl) fdFault S x.types _ w1 (fdIs_first hS HB1.out) (fdSl_keep (Keeps.below HB1.out hS) HTy.out)
      (fun t _ W u hbW hu => checkField_any S t u W (fdIs_first (fdIs_first hS HB1.out) hbW) hu)).mono ?_
    rintro e w2 ⟨rfl, hb2⟩
    go_wp2
    go_ret
    exact ⟨by rw [HT.out]; rfl, HB1.out.trans (hb2.mono HB1.out.size)⟩
  rw [if_neg (by rw [hq]; simp)] at HT
  have hq' : (firstBad fdFault x.types != 0) = false := by rw [hq]; rfl
  clear hq
  go_enter Tryz.func42, Tryz.ntmps42
  go_wp2_with fail
  refine (first_str 96 #[] (enters_of Tryz.func96 (by kernel_rfl) rfl) useFault S x.uses _ _ (fdIs_first hS HB.out) (strSl_keep (Keeps.below HB.out hS) HU.out) (fun t _ W u hbW hu => by obtain ⟨rfl, hz⟩ := hu; exact checkUse_any t hz W)).mono ?_
  rintro e w1 ⟨rfl, hb⟩
  have hc := bcell hb
  have hz1 : w.heap.size < w1.heap.size := by have := hb.size; simp at this; omega
  have HB1 := veil (HB.out.trans (hb.mono (by simp)))
  clear hb
  go_wp2_with fail
  refine (first_fd 98 #[] (enters_of Tryz.func98 (by kernel_rfl) rfl) fdFault S x.types _ w1 (fdIs_first hS HB1.out) (fdSl_keep (Keeps.below HB1.out hS) HTy.out)
    (fun t _ W u hbW hu => checkField_any S t u W (fdIs_first (fdIs_first hS HB1.out) hbW) hu)).mono ?_
  rintro e w2 ⟨rfl, hb2⟩
  have hc2 := bcell hb2
  have HB2 := veil (HB1.out.trans (hb2.mono HB1.out.size))
  clear hb2
  go_wp2_with fail
  refine (first_fu 100 #[] (enters_of Tryz.func100 (by kernel_rfl) rfl) fuFault S x.funcs _ w2 (fdIs_first hS HB2.out) (fuSl_keep (Keeps.below HB2.out hS) HFu.out)
    (fun t _ W u hbW hu => checkFunc_any S t u W (fdIs_first (fdIs_first hS HB2.out) hbW) hu)).mono ?_
  rintro e w3 ⟨rfl, hb3⟩
  go_wp2
  go_ret
  exact ⟨by rw [HT.out]; rfl, HB2.out.trans (hb3.mono HB2.out.size)⟩

end Go.Proofs.YtagbaimfigljiaaGreatDoor
namespace Go.Proofs.YtagbaimfigljiaaGreatDoor
open Go.RowKit
set_option maxRecDepth 100000

def noMo : Mo := ⟨[], [], []⟩
/-- what lines declare, one by one. -/
def readAll : List ByteArray → Mo → Except Int Mo
  | [], m => .ok m
  | s :: r, m => match lineRes s with
    | .error e => .error e
    | .ok d => readAll r (putLine m d)
def readErr (s : ByteArray) : Int := if 1500 < s.size then 1 else match readAll (linesOf s) noMo with
  | .error e => e
  | .ok m => moFault m
def readMo (s : ByteArray) : Mo := if 1500 < s.size then noMo else match readAll (linesOf s) noMo with
  | .error _ => noMo
  | .ok m => if moFault m = 0 then m else noMo

theorem noMo_is {S : Nat → Prop} {w : World} : MoIs S w noMo (.agg #[.slice none 0 0, .slice none 0 0, .slice none 0 0]) := ⟨_, _, _, rfl, none_sl, none_sl, none_sl⟩

theorem put_len {m : Mo} {d : Line} {k : Nat} (h : m.uses.length ≤ k ∧ m.types.length ≤ k ∧ m.funcs.length ≤ k) : (putLine m d).uses.length ≤ k + 1 ∧ (putLine m d).types.length ≤ k + 1 ∧ (putLine m d).funcs.length ≤ k + 1 := by
  cases d <;> simp [putLine] <;> omega

theorem linesOf_le (s : ByteArray) : (linesOf s).length ≤ s.size + 1 := by
  have h1 : 1 ≤ (⟨#[10]⟩ : ByteArray).size := Nat.le_refl _
  have hle := Lib.countB_le ⟨#[10]⟩ h1 s.size s (Nat.le_refl _)
  have hlen := Lib.splitB_all ⟨#[10]⟩ h1 0 _ s rfl
  unfold linesOf
  omega

/-- three cells of a block that is there take what is stored. -/
theorem three_set {w : World} {b : Nat} {x y z : Value} {T : TypeId} (h : w.heap[b]? = some (.cells #[x, y, z] T (0, 0))) (u v t : Value) :
    (((w.setCell ⟨b, 0, none⟩ u).setCell ⟨b, 1, none⟩ v).setCell ⟨b, 2, none⟩ t).cell? ⟨b, 0, none⟩ = some u ∧ (((w.setCell ⟨b, 0, none⟩ u).setCell ⟨b, 1, none⟩ v).setCell ⟨b, 2, none⟩ t).cell? ⟨b, 1, none⟩ = some v ∧ (((w.setCell ⟨b, 0, none⟩ u).setCell ⟨b, 1, none⟩ v).setCell ⟨b, 2, none⟩ t).cell? ⟨b, 2, none⟩ = some t := by
  have h3 := block_set (block_set (block_set h 0 u) 1 v) 2 t
  refine ⟨?_, ?_, ?_⟩ <;> (rw [cell_of_row _ b _ _ _ _ h3]; rfl)

/-- the list of what a module uses is its own. -/
def UsOwn (W : World) (B : Nat) (m : Mo) (v : Value) : Prop := ∃ u t f, v = .agg #[u, t, f] ∧ W.ownsRow B 9 1 u m.uses.length (m.uses.map Value.string)
theorem noMo_own {W : World} {B : Nat} : UsOwn W B noMo (.agg #[.slice none 0 0, .slice none 0 0, .slice none 0 0]) := ⟨_, _, _, rfl, World.ownsRow_nil _ _ _ _⟩
theorem stRow {base n1 : Nat} {S : Nat → Prop} {xs : List ByteArray} {v : Value} {ys : List Value} {W : World} (h : RowIs StC 9 1 base n1 S xs v ys W) : W.ownsRow base 9 1 v xs.length (xs.map Value.string) := by
  have e : ys = xs.map Value.string := by
    apply List.ext_getElem?
    intro j
    by_cases hj : j < xs.length
    · obtain ⟨cs, _, h2, rfl, _⟩ := h.items j hj
      have := h2 0 (by omega)
      rw [Nat.mul_one, Nat.add_zero] at this
      rw [this]
      simp [hj]
    · have hl : ys.length = xs.length * 1 := h.own.1
      rw [List.getElem?_eq_none (by omega), List.getElem?_eq_none (by rw [List.length_map]; omega)]
  rw [← e]
  exact h.own
theorem own_after {W W' : World} {B B' n : Nat} {v : Value} {ys : List Value} (h : W.ownsRow B 9 1 v n ys) (hb : Below W.heap.size W W') (hB : B' ≤ B) : W'.ownsRow B' 9 1 v n ys := by
  obtain ⟨hx, ⟨hv, hn⟩ | ⟨g, cap, cur, hv, hg, hh, h1⟩⟩ := h
  · exact ⟨hx, Or.inl ⟨hv, hn⟩⟩
  · refine ⟨hx, Or.inr ⟨g, cap, cur, hv, Nat.le_trans hB hg, ?_, h1⟩⟩
    rw [hb.block g ?_]
    · exact hh
    · rcases Nat.lt_or_ge g W.heap.size with h | h
      · exact h
      · rw [Array.getElem?_eq_none h] at hh
        cases hh

set_option maxHeartbeats 8000000 in
theorem read_full (s : ByteArray) (w : World) : Calls Tryz.prog 29 #[.string s] w fun e w' => Below w.heap.size w w' ∧ ∃ v, e = .returned (.tuple #[v, .int .i64 (readErr s)]) ∧ MoIs (Fresh w.heap.size w') w' (readMo s) v ∧ UsOwn w' w.heap.size (readMo s) v := by
  by_cases h15 : 1500 < s.size
  · have h15' : (1500 : Int) < (s.size : Int) := by omega
    have HE : Hid (readErr s = 1) := if_pos h15
    have HMo : Hid (readMo s = noMo) := if_pos h15
    go_enter Tryz.func29, Tryz.ntmps29
    go_wp2_with fail
    exact bodyPost_ret (v := .tuple #[.agg #[.slice none 0 0, .slice none 0 0, .slice none 0 0], .int .i64 1]) (by simp [results, Tryz.results29, go_sem]) rfl
      ⟨(Below.refl _ _).alloc (Nat.le_refl _) _, _, by rw [HE.out], by rw [HMo.out]; exact noMo_is, by rw [HMo.out]; exact noMo_own⟩
  · have h15' : ¬ (1500 : Int) < (s.size : Int) := by omega
    have hll := linesOf_le s
    have hE : readErr s = match readAll (linesOf s) noMo with
      | .error e => e
      | .ok m => moFault m := if_neg h15
    have hMo : readMo s = match readAll (linesOf s) noMo with
      | .error _ => noMo
      | .ok m => if moFault m = 0 then m else noMo := if_neg h15
    have HE := veil hE
    have HMo := veil hMo
    have HSp := veil (split_lines s (by omega) ((w.alloc (.cells #[.slice none 0 0, .slice none 0 0, .slice none 0 0] 44)).alloc (.cells #[.slice none 0 0, .slice none 0 0, .slice none 0 0] 44)))
    clear hE hMo
    generalize linesOf s = L at *
    have hw1 : ∃ w1, ((w.alloc (.cells #[.slice none 0 0, .slice none 0 0, .slice none 0 0] 44)).alloc (.cells #[.slice none 0 0, .slice none 0 0, .slice none 0 0] 44)).alloc (.cells (L.map Value.string).toArray 9) = w1 ∧ w1.heap.size = w.heap.size + 3 ∧
        w1.heap[w.heap.size]? = some (.cells #[.slice none 0 0, .slice none 0 0, .slice none 0 0] 44 (0, 0)) ∧ w1.heap[w.heap.size + 1]? = some (.cells #[.slice none 0 0, .slice none 0 0, .slice none 0 0] 44 (0, 0)) ∧ w1.heap[w.heap.size + 2]? = some (.cells (L.map Value.string).toArray 9 (0, 0)) ∧ Below w.heap.size w w1 := by
      have n0 : (w.alloc (.cells #[.slice none 0 0, .slice none 0 0, .slice none 0 0] 44)).heap.size = w.heap.size + 1 := by simp
      have n1 : ((w.alloc (.cells #[.slice none 0 0, .slice none 0 0, .slice none 0 0] 44)).alloc (.cells #[.slice none 0 0, .slice none 0 0, .slice none 0 0] 44)).heap.size = w.heap.size + 2 := by simp
      have a0 := heap_alloc_new w (.cells #[.slice none 0 0, .slice none 0 0, .slice none 0 0] 44)
      have a1 := heap_alloc_new (w.alloc (.cells #[.slice none 0 0, .slice none 0 0, .slice none 0 0] 44)) (.cells #[.slice none 0 0, .slice none 0 0, .slice none 0 0] 44)
      have a2 := heap_alloc_new ((w.alloc (.cells #[.slice none 0 0, .slice none 0 0, .slice none 0 0] 44)).alloc (.cells #[.slice none 0 0, .slice none 0 0, .slice none 0 0] 44)) (.cells (L.map Value.string).toArray 9)
      rw [n0] at a1
      rw [n1] at a2
      refine ⟨_, rfl, by simp, ?_, ?_, a2, (((Below.refl _ _).alloc (Nat.le_refl _) _).alloc (by omega) _).alloc (by omega) _⟩
      · rw [heap_alloc_old _ _ (by omega), heap_alloc_old _ _ (by omega)]; exact a0
      · rw [heap_alloc_old _ _ (by omega)]; exact a1
    obtain ⟨w1, hwe, hs1, p0, p1, p2, hbel⟩ := hw1
    have HP0 := veil p0
    have HP2 := veil p2
    have HBel := veil hbel
    have HM0 : Hid (ModAt (w.heap.size + 3) (w.heap.size + 1) (w.heap.size + 3) noMo (.slice none 0 0) (.slice none 0 0) (.slice none 0 0) w1) :=
      ⟨p1, by omega, by omega, by omega, ⟨[], ⟨rfl, Or.inl ⟨rfl, rfl⟩⟩, fun g h => (by cases h), fun j hj => absurd hj (by simp [noMo])⟩, ⟨[], ⟨rfl, Or.inl ⟨rfl, rfl⟩⟩, fun g h => (by cases h), fun j hj => absurd hj (by simp [noMo])⟩, ⟨[], ⟨rfl, Or.inl ⟨rfl, rfl⟩⟩, fun g h => (by cases h), fun j hj => absurd hj (by simp [noMo])⟩⟩
    clear p0 p1 p2 hbel
    go_enter Tryz.func29, Tryz.ntmps29
    go_wp2_with fail
    refine HSp.out.mono ?_
    rintro e wx ⟨rfl, hwx⟩
    rw [hwe] at hwx
    subst hwx
    clear hwe HSp
    go_wp2_with fail
    go_loopw [16] (fun i wr => ∃ k : Nat, k ≤ L.length ∧ i = .int .i64 k ∧ ∃ mo n1 vu vt vf, ModAt (w.heap.size + 3) (w.heap.size + 1) n1 mo vu vt vf wr ∧ (mo.uses.length ≤ k ∧ mo.types.length ≤ k ∧ mo.funcs.length ≤ k) ∧ readAll (L.drop k) mo = readAll L noMo ∧ BelowM (w.heap.size + 3) (w.heap.size + 1) wx wr) (fun i _ => L.length - (intOf i).toNat)
    case atStart => exact ⟨0, Nat.zero_le _, rfl, noMo, _, _, _, _, HM0.out, ⟨Nat.le_refl _, Nat.le_refl _, Nat.le_refl _⟩, rfl, ⟨rfl, rfl, rfl, Nat.le_refl _, fun _ _ _ => rfl⟩⟩
    case round =>
      obtain ⟨k, hk, rfl, mo, n1, vu, vt, vf, hmod, hlens, hra, hbm⟩ := hrel
      obtain ⟨hl1, hl2, hl3⟩ := hlens
      obtain ⟨yu, hyu⟩ := hmod.us
      obtain ⟨yt, hyt⟩ := hmod.ts
      obtain ⟨yf, hyf⟩ := hmod.fs
      obtain ⟨au, cu, hvu⟩ := own_slice hyu.own
      obtain ⟨at', ct, hvt⟩ := own_slice hyt.own
      obtain ⟨af, cf, hvf⟩ := own_slice hyf.own
      subst hvu hvt hvf
      clear hyu hyt hyf
      have HMod := veil hmod
      have HRa := veil hra
      have HBm := veil hbm
      have HZ : Hid (∀ W', BelowM (w.heap.size + 3) (w.heap.size + 1) wx W' → W'.heap[w.heap.size]? = some (.cells #[.slice none 0 0, .slice none 0 0, .slice none 0 0] 44 (0, 0))) := fun W' h => (h.block w.heap.size (by omega) (by omega)).trans HP0.out
      have HBw : Hid (∀ W', BelowM (w.heap.size + 3) (w.heap.size + 1) wx W' → Below w.heap.size w W') := fun W' h => HBel.out.trans ⟨h.os, h.tape, h.output, h.size, fun b hb => h.block b (by omega) (by omega)⟩
      by_cases hlt : k < L.length
      · have hlt' : (k : Int) < (L.length : Int) := by omega
        have c0 : wr.cell? ⟨w.heap.size + 1 + 1, k, none⟩ = some (.string (L[k]'hlt)) := by
          rw [cell_of_row wr (w.heap.size + 1 + 1) k _ _ _ ((hbm.block (w.heap.size + 2) (by omega) (by omega)).trans HP2.out)]
          simp [hlt]
        have hd : L.drop k = L[k]'hlt :: L.drop (k + 1) := List.drop_eq_getElem_cons hlt
        rw [hd, readAll] at HRa
        clear hd hmod hra hbm
        generalize L[k]'hlt = ln at *
        go_wp2_with fail
        refine (line_next ln (w.heap.size + 3) (w.heap.size + 1) n1 mo _ _ _ wr HMod.out (by omega) (by omega) (by omega)).mono ?_
        rintro e w' ⟨x, rfl, hbm', ⟨er, hr, rfl⟩ | ⟨d, hr, rfl, n1', vu', vt', vf', hmod'⟩⟩
        · rw [hr] at HRa
          have hne := lineRes_ne hr
          have hne' : (x != 0) = true := by simpa using hne
          have HE1 : Hid (readErr s = x) := by show _ = _; rw [HE.out, ← HRa.out]
          have HM1 : Hid (readMo s = noMo) := by show _ = _; rw [HMo.out, ← HRa.out]
          have hbx := HBm.out.trans hbm'
          have hz := HZ.out w' hbx
          have HBw1 := veil (HBw.out w' hbx)
          have HT := veil (three_set hz (.slice none 0 0) (.slice none 0 0) (.slice none 0 0))
          have z0 : w'.cell? ⟨w.heap.size, 0, none⟩ = some (.slice none 0 0) := by rw [cell_of_row w' _ 0 _ _ _ hz]; rfl
          have z1 : w'.cell? ⟨w.heap.size, 1, none⟩ = some (.slice none 0 0) := by rw [cell_of_row w' _ 1 _ _ _ hz]; rfl
          have z2 : w'.cell? ⟨w.heap.size, 2, none⟩ = some (.slice none 0 0) := by rw [cell_of_row w' _ 2 _ _ _ hz]; rfl
          have f0 := Lib.frozen_of_heap hz 0
          have f1 := Lib.frozen_of_heap hz 1
          have f2 := Lib.frozen_of_heap hz 2
          clear hr hne hbm' hbx hz HRa HE HMo HMod HBm c0
          go_wp2_with fail
          obtain ⟨q0, q1, q2⟩ := HT.out
          exact bodyPost_ret (v := .tuple #[.agg #[.slice none 0 0, .slice none 0 0, .slice none 0 0], .int .i64 x]) (by simp [results, Tryz.results29, go_sem, q0, q1, q2]) rfl
            ⟨((HBw1.out.setCell (p := ⟨w.heap.size, 0, none⟩) (Nat.le_refl _) _).setCell (p := ⟨w.heap.size, 1, none⟩) (Nat.le_refl _) _).setCell (p := ⟨w.heap.size, 2, none⟩) (Nat.le_refl _) _, _, by rw [HE1.out], by rw [HM1.out]; exact noMo_is, by rw [HM1.out]; exact noMo_own⟩
        · rw [hr] at HRa
          have HMod' := veil hmod'
          have HBm' := veil (HBm.out.trans hbm')
          have HL' := veil (put_len (m := mo) (d := d) (k := k) ⟨hl1, hl2, hl3⟩)
          clear hr hbm' hmod' HMod HBm c0
          go_wp2_with fail
          exact ⟨⟨k + 1, by omega, by go_num, putLine mo d, n1', vu', vt', vf', HMod'.out, HL'.out, HRa.out, HBm'.out⟩, by simp [intOf]; omega⟩
      · have hke : k = L.length := by omega
        have hnl : ¬ (k : Int) < (L.length : Int) := by omega
        rw [hke, List.drop_length, readAll] at HRa
        have hb1 := hmod.mod
        have c0 : wr.cell? ⟨w.heap.size + 1, 0, none⟩ = some (.slice au mo.uses.length cu) := by rw [cell_of_row wr _ 0 _ _ _ hb1]; rfl
        have c1 : wr.cell? ⟨w.heap.size + 1, 1, none⟩ = some (.slice at' mo.types.length ct) := by rw [cell_of_row wr _ 1 _ _ _ hb1]; rfl
        have c2 : wr.cell? ⟨w.heap.size + 1, 2, none⟩ = some (.slice af mo.funcs.length cf) := by rw [cell_of_row wr _ 2 _ _ _ hb1]; rfl
        have HIs := veil (hmod.is (by unfold maxLen; omega) (by unfold maxLen; omega) (by unfold maxLen; omega))
        have hsz : w.heap.size + 3 ≤ wr.heap.size := by have := hbm.size; omega
        have HUs : Hid (wr.ownsRow (w.heap.size + 3) 9 1 (.slice au mo.uses.length cu) mo.uses.length (mo.uses.map Value.string)) := by obtain ⟨yu, hyu⟩ := hmod.us; exact stRow hyu
        clear hmod hra hbm hb1
        go_wp2_with fail
        refine (treeCheck_any _ mo _ wr (fun b hb => hb.2) HIs.out).mono ?_
        rintro e w' ⟨rfl, hb⟩
        have hbx := HBm.out.trans (BelowM.of_below hb (by omega))
        have hz := HZ.out w' hbx
        have HBw1 := veil (HBw.out w' hbx)
        have HUs2 := veil (own_after HUs.out hb (Nat.le_refl _))
        have HIs2 := veil (HIs.out.keep (S' := Fresh (w.heap.size + 3) w') ⟨fun b hb' => hb.block b hb'.2, fun b hb' => ⟨hb'.1, Nat.lt_of_lt_of_le hb'.2 hb.size⟩⟩)
        have z0 : w'.cell? ⟨w.heap.size, 0, none⟩ = some (.slice none 0 0) := by rw [cell_of_row w' _ 0 _ _ _ hz]; rfl
        have z1 : w'.cell? ⟨w.heap.size, 1, none⟩ = some (.slice none 0 0) := by rw [cell_of_row w' _ 1 _ _ _ hz]; rfl
        have z2 : w'.cell? ⟨w.heap.size, 2, none⟩ = some (.slice none 0 0) := by rw [cell_of_row w' _ 2 _ _ _ hz]; rfl
        have d0 : w'.cell? ⟨w.heap.size + 1, 0, none⟩ = some (.slice au mo.uses.length cu) := (hb.cell (p := ⟨w.heap.size + 1, 0, none⟩) (by show w.heap.size + 1 < _; omega)).trans c0
        have d1 : w'.cell? ⟨w.heap.size + 1, 1, none⟩ = some (.slice at' mo.types.length ct) := (hb.cell (p := ⟨w.heap.size + 1, 1, none⟩) (by show w.heap.size + 1 < _; omega)).trans c1
        have d2 : w'.cell? ⟨w.heap.size + 1, 2, none⟩ = some (.slice af mo.funcs.length cf) := (hb.cell (p := ⟨w.heap.size + 1, 2, none⟩) (by show w.heap.size + 1 < _; omega)).trans c2
        have f0 := Lib.frozen_of_heap hz 0
        have f1 := Lib.frozen_of_heap hz 1
        have f2 := Lib.frozen_of_heap hz 2
        have HEm : Hid (readErr s = moFault mo) := by show _ = _; rw [HE.out, ← HRa.out]
        by_cases hmf : moFault mo = 0
        · have HM1 : Hid (readMo s = mo) := by show _ = _; rw [HMo.out, ← HRa.out]; exact if_pos hmf
          have HE1 : Hid (readErr s = 0) := HEm.out.trans hmf
          have HT := veil (three_set hz (.slice au mo.uses.length cu) (.slice at' mo.types.length ct) (.slice af mo.funcs.length cf))
          rw [hmf]
          clear hbx hz hb c0 c1 c2 HE HMo HMod HBm HRa HIs hmf
          go_wp2_with fail
          obtain ⟨q0, q1, q2⟩ := HT.out
          refine bodyPost_ret (v := .tuple #[.agg #[.slice au mo.uses.length cu, .slice at' mo.types.length ct, .slice af mo.funcs.length cf], .int .i64 0]) (by simp [results, Tryz.results29, go_sem, q0, q1, q2]) rfl
            ⟨((HBw1.out.setCell (p := ⟨w.heap.size, 0, none⟩) (Nat.le_refl _) _).setCell (p := ⟨w.heap.size, 1, none⟩) (Nat.le_refl _) _).setCell (p := ⟨w.heap.size, 2, none⟩) (Nat.le_refl _) _, _, by rw [HE1.out], ?_, ?_⟩
          · rw [HM1.out]
            refine HIs2.out.keep ⟨fun b hb' => ?_, fun b hb' => ⟨by have := hb'.1; omega, ?_⟩⟩
            · have h1 := hb'.1
              rw [Below.heap_setCell _ _ _ _ (by show b ≠ w.heap.size; omega), Below.heap_setCell _ _ _ _ (by show b ≠ w.heap.size; omega), Below.heap_setCell _ _ _ _ (by show b ≠ w.heap.size; omega)]
            · rw [heap_size_setCell, heap_size_setCell, heap_size_setCell]; exact hb'.2
          · rw [HM1.out]
            refine ⟨_, _, _, rfl, ?_⟩
            exact own_after (ownsRow_setCell_below (ownsRow_setCell_below (ownsRow_setCell_below HUs2.out (a := ⟨w.heap.size, 0, none⟩) (by show w.heap.size < _; omega) _) (a := ⟨w.heap.size, 1, none⟩) (by show w.heap.size < _; omega) _) (a := ⟨w.heap.size, 2, none⟩) (by show w.heap.size < _; omega) _) (Below.refl _ _) (by omega)
        · have hne' : (moFault mo != 0) = true := by simpa using hmf
          have HM1 : Hid (readMo s = noMo) := by show _ = _; rw [HMo.out, ← HRa.out]; exact if_neg hmf
          have HT := veil (three_set hz (.slice none 0 0) (.slice none 0 0) (.slice none 0 0))
          clear hbx hz hb c0 c1 c2 HE HMo HMod HBm HRa HIs hmf
          generalize moFault mo = y at *
          go_wp2_with fail
          obtain ⟨q0, q1, q2⟩ := HT.out
          exact bodyPost_ret (v := .tuple #[.agg #[.slice none 0 0, .slice none 0 0, .slice none 0 0], .int .i64 y]) (by simp [results, Tryz.results29, go_sem, q0, q1, q2]) rfl
            ⟨((HBw1.out.setCell (p := ⟨w.heap.size, 0, none⟩) (Nat.le_refl _) _).setCell (p := ⟨w.heap.size, 1, none⟩) (Nat.le_refl _) _).setCell (p := ⟨w.heap.size, 2, none⟩) (Nat.le_refl _) _, _, by rw [HEm.out], by rw [HM1.out]; exact noMo_is, by rw [HM1.out]; exact noMo_own⟩

theorem read_all (s : ByteArray) (w : World) : Calls Tryz.prog 29 #[.string s] w fun e w' => Below w.heap.size w w' ∧ ∃ v, e = .returned (.tuple #[v, .int .i64 (readErr s)]) ∧ MoIs (Fresh w.heap.size w') w' (readMo s) v :=
  (read_full s w).mono fun _ _ ⟨hb, v, he, hm, _⟩ => ⟨hb, v, he, hm⟩

end Go.Proofs.YtagbaimfigljiaaGreatDoor
namespace Go.Proofs.YtagbaimfigljiaaGreatDoor
open Go.RowKit
set_option maxRecDepth 100000

structure Kn where
  name : ByteArray
  is : ByteArray
structure Sg where
  name : ByteArray
  params : List ByteArray
  result : ByteArray
structure Fc where
  types : List Kn
  funcs : List Sg
structure Im where
  name : ByteArray
  there : Bool
  face : Fc

instance : Inhabited Kn := ⟨⟨.empty, .empty⟩⟩
instance : Inhabited Sg := ⟨⟨.empty, [], .empty⟩⟩
instance : Inhabited Im := ⟨⟨.empty, false, ⟨[], []⟩⟩⟩

/-! ### How they lie in memory. -/

def KnAt (w : World) (k : Kn) (b o : Nat) : Prop := StrAt w k.name b o ∧ StrAt w k.is b (o + 1)
def SgAt (S : Nat → Prop) (w : World) (g : Sg) (b o : Nat) : Prop :=
  StrAt w g.name b o ∧ (∃ v, w.cell? ⟨b, o + 1, none⟩ = some v ∧ SlAt S (StrAt w) 1 g.params v) ∧ StrAt w g.result b (o + 2)
def SgIs (S : Nat → Prop) (w : World) (g : Sg) (v : Value) : Prop := ∃ vp, v = .agg #[.string g.name, vp, .string g.result] ∧ g.name.size ≤ maxLen ∧ g.result.size ≤ maxLen ∧ SlAt S (StrAt w) 1 g.params vp
/-- the two lists of a face. -/
def FcCs (S : Nat → Prop) (w : World) (f : Fc) (vt vf : Value) : Prop := SlAt S (KnAt w) 2 f.types vt ∧ SlAt S (SgAt S w) 3 f.funcs vf
def FcIs (S : Nat → Prop) (w : World) (f : Fc) (v : Value) : Prop := ∃ vt vf, v = .agg #[vt, vf] ∧ FcCs S w f vt vf
def ImAt (S : Nat → Prop) (w : World) (i : Im) (b o : Nat) : Prop :=
  StrAt w i.name b o ∧ w.cell? ⟨b, o + 1, none⟩ = some (.bool i.there) ∧ ∃ vt vf, w.cell? ⟨b, o + 2, none⟩ = some vt ∧ w.cell? ⟨b, o + 3, none⟩ = some vf ∧ FcCs S w i.face vt vf

theorem KnAt.keep {S S' : Nat → Prop} {w w' : World} (hk : Keeps S S' w w') {k : Kn} {b o : Nat} (hb : S b) (h : KnAt w k b o) : KnAt w' k b o := ⟨StrAt.keep hk hb h.1, StrAt.keep hk hb h.2⟩
theorem knSl_keep {S S' : Nat → Prop} {w w' : World} (hk : Keeps S S' w w') {l : List Kn} {v : Value} (h : SlAt S (KnAt w) 2 l v) : SlAt S' (KnAt w') 2 l v := h.imp hk.sub fun _ _ _ _ hb' h => KnAt.keep hk hb' h
theorem SgAt.keep {S S' : Nat → Prop} {w w' : World} (hk : Keeps S S' w w') {g : Sg} {b o : Nat} (hb : S b) (h : SgAt S w g b o) : SgAt S' w' g b o := by
  obtain ⟨h0, ⟨v, hv, hp⟩, h1⟩ := h
  exact ⟨StrAt.keep hk hb h0, ⟨v, by rwa [hk.cell hb], strSl_keep hk hp⟩, StrAt.keep hk hb h1⟩
theorem sgSl_keep {S S' : Nat → Prop} {w w' : World} (hk : Keeps S S' w w') {l : List Sg} {v : Value} (h : SlAt S (SgAt S w) 3 l v) : SlAt S' (SgAt S' w') 3 l v := h.imp hk.sub fun _ _ _ _ hb' h => SgAt.keep hk hb' h
theorem SgIs.keep {S S' : Nat → Prop} {w w' : World} (hk : Keeps S S' w w') {g : Sg} {v : Value} (h : SgIs S w g v) : SgIs S' w' g v := by
  obtain ⟨vp, rfl, h1, h2, h3⟩ := h
  exact ⟨vp, rfl, h1, h2, strSl_keep hk h3⟩
theorem FcCs.keep {S S' : Nat → Prop} {w w' : World} (hk : Keeps S S' w w') {f : Fc} {vt vf : Value} (h : FcCs S w f vt vf) : FcCs S' w' f vt vf := ⟨knSl_keep hk h.1, sgSl_keep hk h.2⟩
theorem FcIs.keep {S S' : Nat → Prop} {w w' : World} (hk : Keeps S S' w w') {f : Fc} {v : Value} (h : FcIs S w f v) : FcIs S' w' f v := by
  obtain ⟨vt, vf, rfl, h1⟩ := h
  exact ⟨vt, vf, rfl, h1.keep hk⟩
theorem ImAt.keep {S S' : Nat → Prop} {w w' : World} (hk : Keeps S S' w w') {i : Im} {b o : Nat} (hb : S b) (h : ImAt S w i b o) : ImAt S' w' i b o := by
  obtain ⟨h0, h1, vt, vf, h2, h3, h4⟩ := h
  exact ⟨StrAt.keep hk hb h0, by rwa [hk.cell hb], vt, vf, by rwa [hk.cell hb], by rwa [hk.cell hb], h4.keep hk⟩
theorem imSl_keep {S S' : Nat → Prop} {w w' : World} (hk : Keeps S S' w w') {l : List Im} {v : Value} (h : SlAt S (ImAt S w) 4 l v) : SlAt S' (ImAt S' w') 4 l v := h.imp hk.sub fun _ _ _ _ hb' h => ImAt.keep hk hb' h

/-! ### When two are the same. -/

def sEq (a b : ByteArray) : Bool := a.toList == b.toList
def eqL {α : Type} (p : α → α → Bool) : List α → List α → Bool
  | [], [] => true
  | x :: xs, y :: ys => p x y && eqL p xs ys
  | [], _ :: _ => false
  | _ :: _, [] => false
theorem eqL_len {α : Type} {p : α → α → Bool} : ∀ {l m : List α}, l.length ≠ m.length → eqL p l m = false
  | [], [], h => absurd rfl h
  | x :: xs, y :: ys, h => by rw [eqL, eqL_len (l := xs) (m := ys) (fun e => h (by simp [e]))]; simp
  | [], _ :: _, _ => rfl
  | _ :: _, [], _ => rfl
theorem eqL_step {α : Type} {p : α → α → Bool} {l m : List α} {k : Nat} (hl : k < l.length) (hm : k < m.length) : eqL p (l.drop k) (m.drop k) = (p l[k] m[k] && eqL p (l.drop (k + 1)) (m.drop (k + 1))) := by
  rw [List.drop_eq_getElem_cons hl, List.drop_eq_getElem_cons hm, eqL]
theorem eqL_end {α : Type} {p : α → α → Bool} {l m : List α} {k : Nat} (hl : l.length ≤ k) (hm : m.length ≤ k) : eqL p (l.drop k) (m.drop k) = true := by
  rw [List.drop_eq_nil_of_le hl, List.drop_eq_nil_of_le hm, eqL]
theorem sEq_refl (a : ByteArray) : sEq a a = true := by simp [sEq]
theorem SlAt.len {α : Type} {S : Nat → Prop} {P : α → Nat → Nat → Prop} {c : Nat} {l : List α} {v : Value} (h : SlAt S P c l v) : l.length ≤ maxLen := by
  obtain ⟨_, _, _, h, _⟩ := h
  exact h.1
theorem SlAt.is {α : Type} {S : Nat → Prop} {P : α → Nat → Nat → Prop} {c : Nat} {l : List α} {v : Value} (h : SlAt S P c l v) : ∃ a cap, v = .slice a l.length cap := by
  obtain ⟨a, cap, rfl, _⟩ := h
  exact ⟨a, cap, rfl⟩
/-- the k-th of a list that has so many. -/
theorem SlAt.at {α : Type} {S : Nat → Prop} {P : α → Nat → Nat → Prop} {c : Nat} {l : List α} {a : Option Addr} {n cap : Nat} (h : SlAt S P c l (.slice a n cap)) {k : Nat} (hk : k < l.length) :
    n = l.length ∧ ∃ b o, a = some ⟨b, o, none⟩ ∧ S b ∧ P l[k] b (o + k * c) := by
  obtain ⟨a', cap', e, _, h⟩ := h
  injection e with e1 e2 e3
  subst e1 e2
  rcases h with h | ⟨b, o, rfl, hb, hr⟩
  · omega
  · exact ⟨rfl, b, o, rfl, hb, hr.get k hk⟩

end Go.Proofs.YtagbaimfigljiaaGreatDoor
namespace Go.Proofs.YtagbaimfigljiaaGreatDoor
open Go.RowKit
set_option maxRecDepth 100000

def knSmall (k : Kn) : Prop := k.name.size ≤ reachBytes ∧ k.is.size ≤ reachBytes
def sgSmall (g : Sg) : Prop := g.name.size ≤ reachBytes ∧ g.result.size ≤ reachBytes ∧ g.params.length * 16 ≤ reachBytes ∧ ∀ p ∈ g.params, p.size ≤ reachBytes
def fcSmall (f : Fc) : Prop := (f.types.length * 32 ≤ reachBytes ∧ ∀ k ∈ f.types, knSmall k) ∧ f.funcs.length * 56 ≤ reachBytes ∧ ∀ g ∈ f.funcs, sgSmall g

section
variable {H : Type} {enc : TypeId × Value → H} {W : World} {base : Nat} {spare : Nat → Bool} {held : Bool}

end
end Go.Proofs.YtagbaimfigljiaaGreatDoor
