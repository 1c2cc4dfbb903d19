import Derived.Test.YtagbaimfigljiaaGreatDoorJModuleUses9
import Derived.Test.YtagbaimfigljiaaGreatDoorJModuleUses0
import Derived.Test.YtagbaimfigljiaaGreatDoorJModuleUses3
namespace Go.Proofs.YtagbaimfigljiaaGreatDoor
open Go.RowKit
set_option maxRecDepth 100000

/-- the lines of a text. -/
def linesOf (s : ByteArray) : List ByteArray := Lib.splitB ⟨#[10]⟩ 0 (Lib.countB s ⟨#[10]⟩) s

theorem index_line (x : ByteArray) (w : World) : Calls Tryz.prog 112 #[.string x, .string ⟨#[10]⟩] w fun e w' => e = .returned (.int .i64 (Lib.indexB x ⟨#[10]⟩)) ∧ w' = w := by
  go_enter Tryz.func112, Tryz.ntmps112
  go_wp2_with fail
  refine (Any.stringslite_Index_one (P := Tryz.prog) (ρ := Tryz.lays146_ren) { Tryz.lays146 with } x 10 w).mono ?_
  rintro e w' ⟨rfl, rfl⟩
  go_wp2
  go_ret
  exact ⟨by rw [show Lib.indexB x ⟨#[10]⟩ = Lib.indexByte x.data.toList 10 from Lib.index_one _ _]; rfl, rfl⟩

theorem split_lines (s : ByteArray) (hs : s.size < 4294967281) (w : World) :
    Calls Tryz.prog 70 #[.string s, .string ⟨#[10]⟩] w fun e w' => e = .returned (.slice (some ⟨w.heap.size, 0, none⟩) (linesOf s).length (linesOf s).length) ∧ w' = w.alloc (.cells ((linesOf s).map Value.string).toArray 9) := by
  have h1 : 1 ≤ (⟨#[10]⟩ : ByteArray).size := Nat.le_refl _
  have hle := Lib.countB_le ⟨#[10]⟩ h1 s.size s (Nat.le_refl _)
  have hlen := Lib.splitB_all ⟨#[10]⟩ h1 0 _ s rfl
  have hC : Calls Tryz.prog 110 #[.string s, .string ⟨#[10]⟩] w fun e w' => e = .returned (.int .i64 (Lib.countB s ⟨#[10]⟩)) ∧ w' = w := by
    refine (Any.strings_Count_one (P := Tryz.prog) (ρ := Tryz.lays146_ren) { Tryz.lays146 with } s 10 w).mono fun e w' ⟨he, hw⟩ => ⟨?_, hw⟩
    rw [he]
    show _ = Ending.returned (Value.int .i64 ((Lib.count s.data.toList [10] : Nat) : Int))
    rw [Lib.count_one]
    rfl
  have c := Any.strings_genSplit_core (P := Tryz.prog) (ρ := Tryz.lays146_ren) { Tryz.lays146 with } (by kernel_rfl) s ⟨#[10]⟩ 0 (-1) (Lib.countB s ⟨#[10]⟩ + 1) w hs h1 (Nat.zero_le _)
    (fun x c _ => index_line x _) hC (by decide) (by decide) (by rw [if_pos (by decide)]; omega)
  rw [Nat.add_sub_cancel, hlen] at c
  have e2 : Lib.cellsOf (Lib.splitB ⟨#[10]⟩ 0 (Lib.countB s ⟨#[10]⟩) s) (Lib.countB s ⟨#[10]⟩ + 1) = ((Lib.splitB ⟨#[10]⟩ 0 (Lib.countB s ⟨#[10]⟩) s).map Value.string).toArray := by rw [← hlen]; exact Lib.cellsOf_full _
  rw [e2, ← hlen] at c
  have HC : Hid (Calls Tryz.prog 118 #[.string s, .string ⟨#[10]⟩, .int .i64 0, .int .i64 (-1)] w fun e w' => e = .returned (.slice (some ⟨w.heap.size, 0, none⟩) (linesOf s).length (linesOf s).length) ∧ w' = w.alloc (.cells ((linesOf s).map Value.string).toArray 9)) := c
  clear c e2 hC hle hlen
  go_enter Tryz.func70, Tryz.ntmps70
  go_wp2_with fail
  refine HC.out.mono ?_
  rintro e w' ⟨rfl, rfl⟩
  go_wp2
  go_ret
  exact ⟨rfl, rfl⟩

end Go.Proofs.YtagbaimfigljiaaGreatDoor
namespace Go.Proofs.YtagbaimfigljiaaGreatDoor
open Go.RowKit
set_option maxRecDepth 100000

theorem bcell {W w1 : World} (hb : Below W.heap.size W w1) : ∀ b o, b < W.heap.size → w1.cell? ⟨b, o, none⟩ = W.cell? ⟨b, o, none⟩ := fun b o h => hb.cell (p := ⟨b, o, none⟩) h

set_option maxHeartbeats 8000000 in
theorem checkExpr_any : ∀ (m d : Nat), 10 < d + m → ∀ (S : Nat → Prop) (t : Ex) (v : Value) (w : World), d < 1000 → (∀ b, S b → b < w.heap.size) → ExIs S w t v →
    Calls Tryz.prog 172 #[v, .int .i64 d] w fun e w' => e = .returned (.int .i64 (exFault t d)) ∧ Below w.heap.size w w' := by
  intro m
  induction m with
  | zero =>
    rintro d hd S t v w hd1 hS ⟨k, n, f, s, va, rfl, xs, rfl, hf, hs, hsl⟩
    have hd' : (10 : Int) < (d : Int) := by omega
    have HF : Hid (exFault (.mk k n f s xs) d = 1) := by show _ = _; rw [exFault, if_pos (by omega)]
    obtain ⟨a, c, cap, rfl⟩ := hsl.slice
    clear hsl
    go_enter Tryz.func172, Tryz.ntmps172
    go_wp2_with fail
    go_ret
    exact ⟨by rw [HF.out]; rfl, ((Below.refl _ _).alloc (Nat.le_refl _) _).alloc (by simp) _⟩
  | succ m ih =>
    rintro d hd S t v w hd1 hS ⟨k, n, f, s, va, rfl, xs, rfl, hf, hs, hsl⟩
    have HIH := veil ih
    clear ih
    by_cases hd0 : 10 < d
    · have hd' : (10 : Int) < (d : Int) := by omega
      have HF : Hid (exFault (.mk k n f s xs) d = 1) := by show _ = _; rw [exFault, if_pos (by omega)]
      obtain ⟨a, c, cap, rfl⟩ := hsl.slice
      clear hsl
      go_enter Tryz.func172, Tryz.ntmps172
      go_wp2_with fail
      go_ret
      exact ⟨by rw [HF.out]; rfl, ((Below.refl _ _).alloc (Nat.le_refl _) _).alloc (by simp) _⟩
    have hd' : ¬ (10 : Int) < (d : Int) := by omega
    obtain ⟨a, cap, rfl, ⟨hlen, hlenC⟩, hrest⟩ := hsl
    have HSL : Hid (SlAt S (ExAt S w) 5 xs (.slice a xs.length cap)) := ⟨a, cap, rfl, ⟨hlen, hlenC⟩, hrest⟩
    unfold maxLen at hlen
    clear hrest
    have HB : Hid (Below w.heap.size w ((w.alloc (.cells #[.int .i64 k, .int .i64 n, .string f, .string s, .slice a xs.length cap] 87)).alloc (.cells #[.int .i64 d] 3))) := ((Below.refl _ _).alloc (Nat.le_refl _) _).alloc (by simp) _
    cases hk : isIn k 1 7
    · have HF : Hid (exFault (.mk k n f s xs) d = 3) := by show _ = _; rw [exFault, if_neg hd0, if_pos hk]
      have hk2 : k < 1 ∨ 7 < k := by simp [isIn] at hk; omega
      clear hk HSL
      rcases hk2 with hk2 | hk2
      · go_enter Tryz.func172, Tryz.ntmps172
        go_wp2_with fail
        go_ret
        exact ⟨by rw [HF.out]; rfl, HB.out⟩
      · have hk3 : ¬ k < 1 := by omega
        go_enter Tryz.func172, Tryz.ntmps172
        go_wp2_with fail
        go_ret
        exact ⟨by rw [HF.out]; rfl, HB.out⟩
    have hk2 : ¬ k < 1 := by simp [isIn] at hk; omega
    have hk3 : ¬ 7 < k := by simp [isIn] at hk; omega
    by_cases h8 : 8 < xs.length
    · have HF : Hid (exFault (.mk k n f s xs) d = 1) := by show _ = _; rw [exFault, if_neg hd0, if_neg (by rw [hk]; simp), if_pos h8]
      have h8' : (8 : Int) < (xs.length : Int) := by omega
      clear hk HSL
      go_enter Tryz.func172, Tryz.ntmps172
      go_wp2_with fail
      go_ret
      exact ⟨by rw [HF.out]; rfl, HB.out⟩
    have h8' : ¬ (8 : Int) < (xs.length : Int) := by omega
    have HT : Hid (exFault (.mk k n f s xs) d = if (n ≠ 0 ∧ k ≠ 1) ∨ namesFit k f s = false ∨ countFits k xs.length = false then 4 else if isIn n 0 999999 = false then 2 else exsFault xs (d + 1)) := by
      show _ = _; rw [exFault, if_neg hd0, if_neg (by rw [hk]; simp), if_neg h8]
    clear hk
    by_cases h4 : n ≠ 0 ∧ k ≠ 1
    · have HF := veil (HT.out.trans (if_pos (Or.inl h4)))
      have hA : (n != 0) = true := bne_iff_ne.2 h4.1
      have hA' : (k != 1) = true := bne_iff_ne.2 h4.2
      clear h4 HT HSL
      go_enter Tryz.func172, Tryz.ntmps172
      go_wp2_with fail
      go_ret
      exact ⟨by rw [HF.out]; rfl, HB.out⟩
    have hcase : (n != 0) = false ∨ ((n != 0) = true ∧ (k != 1) = false) := by
      by_cases h : n = 0
      · exact Or.inl (by simp [h])
      · refine Or.inr ⟨bne_iff_ne.2 h, ?_⟩
        have : k = 1 := by
          by_cases hk : k = 1
          · exact hk
          · exact absurd ⟨h, hk⟩ h4
        simp [this]
    have hef := makeFunc_run
    cases hnf : namesFit k f s
    · have HF := veil (HT.out.trans (if_pos (Or.inr (Or.inl hnf))))
      clear HT HSL h4
      rcases hcase with hA | ⟨hA, hA'⟩
      all_goals
        go_enter Tryz.func172, Tryz.ntmps172
        go_wp2_with fail
        refine (namesFit_any k n f s _ hf hs _).mono ?_
        rintro e w1 ⟨rfl, hb⟩
        rw [hnf]
        go_wp2
        go_ret
        exact ⟨by rw [HF.out]; rfl, HB.out.trans (hb.mono (by simp; omega))⟩
    cases hcf : countFits k xs.length
    · have HF := veil (HT.out.trans (if_pos (Or.inr (Or.inr hcf))))
      clear HT HSL h4
      rcases hcase with hA | ⟨hA, hA'⟩
      all_goals
        go_enter Tryz.func172, Tryz.ntmps172
        go_wp2_with fail
        refine (namesFit_any k n f s _ hf hs _).mono ?_
        rintro e w1 ⟨rfl, hb⟩
        rw [hnf]
        have hc := bcell hb
        have HB1 := veil (HB.out.trans (hb.mono (by simp; omega)))
        clear hb
        go_wp2_with fail
        refine (countFits_any k n f s a xs.length cap _).mono ?_
        rintro e w2 ⟨rfl, hb2⟩
        rw [hcf]
        go_wp2
        go_ret
        exact ⟨by rw [HF.out]; rfl, HB1.out.trans (hb2.mono HB1.out.size)⟩
    have HT2 := veil (HT.out.trans (if_neg (by rintro (h | h | h); exact h4 h; rw [hnf] at h; cases h; rw [hcf] at h; cases h)))
    clear HT h4
    cases hr : isIn n 0 999999
    · have HF := veil (HT2.out.trans (if_pos hr))
      have hr2 : n < 0 ∨ (¬ n < 0 ∧ 999999 < n) := by simp [isIn] at hr; omega
      clear HT2 HSL hr
      rcases hcase with hA | ⟨hA, hA'⟩ <;> rcases hr2 with hr2 | ⟨hr3, hr2⟩
      all_goals
        go_enter Tryz.func172, Tryz.ntmps172
        go_wp2_with fail
        refine (namesFit_any k n f s _ hf hs _).mono ?_
        rintro e w1 ⟨rfl, hb⟩
        rw [hnf]
        have hc := bcell hb
        have HB1 := veil (HB.out.trans (hb.mono (by simp; omega)))
        have hs1 : w.heap.size + 2 ≤ w1.heap.size := by have := hb.size; simp at this; omega
        have hz1 : w.heap.size < w1.heap.size := by omega
        clear hb
        go_wp2_with fail
        refine (countFits_any k n f s a xs.length cap _).mono ?_
        rintro e w2 ⟨rfl, hb2⟩
        rw [hcf]
        have hc2 := bcell hb2
        have HB2 := veil (HB1.out.trans (hb2.mono HB1.out.size))
        clear hb2
        go_wp2
        go_ret
        exact ⟨by rw [HF.out]; rfl, HB2.out⟩
    have HF := veil (HT2.out.trans ((if_neg (by rw [hr]; simp)).trans (exsFault_first xs (d + 1))))
    have hr2 : ¬ n < 0 := by simp [isIn] at hr; omega
    have hr3 : ¬ 999999 < n := by simp [isIn] at hr; omega
    clear HT2 hr
    rcases hcase with hA | ⟨hA, hA'⟩
    all_goals
      go_enter Tryz.func172, Tryz.ntmps172
      go_wp2_with fail
      refine (namesFit_any k n f s _ hf hs _).mono ?_
      rintro e w1 ⟨rfl, hb⟩
      rw [hnf]
      have hc := bcell hb
      have HB1 := veil (HB.out.trans (hb.mono (by simp; omega)))
      have hs1 : w.heap.size + 2 ≤ w1.heap.size := by have := hb.size; simp at this; omega
      have hz1 : w.heap.size < w1.heap.size := by omega
      clear hb
      go_wp2_with fail
      refine (countFits_any k n f s a xs.length cap _).mono ?_
      rintro e w2 ⟨rfl, hb2⟩
      rw [hcf]
      have hc2 := bcell hb2
      have HB2 := veil (HB1.out.trans (hb2.mono HB1.out.size))
      have hs2 : w.heap.size + 2 ≤ w2.heap.size := by have := hb2.size; omega
      have hcd : w2.cell? ⟨w.heap.size + 1, 0, none⟩ = some (.int .i64 d) := (hc2 _ _ (by omega)).trans ((hc _ _ (by simp)).trans (World.cell?_alloc_at _ _ _ _ (by simp)))
      have HCD := veil hcd
      clear hb2 hcd
      go_wp2_with fail
      refine (first_ex 248 #[.pointer (some ⟨w.heap.size + 1, 0, none⟩)] (enters_of Tryz.func248 (by kernel_rfl) rfl) (fun t => exFault t (d + 1)) S xs _ w2 (fun b h => by have := hS b h; omega) (exSl_keep (Keeps.below HB2.out hS) HSL.out) ?_).mono ?_
      · clear hc hc2
        rintro t ht W u hbW ⟨k', n', f', s', va', rfl, hcs⟩
        have hcd : W.cell? ⟨w.heap.size + 1, 0, none⟩ = some (.int .i64 d) := (hbW.cell (by show w.heap.size + 1 < w2.heap.size; omega)).trans HCD.out
        have hne : w.heap.size + 1 < W.heap.size := by have := hbW.size; omega
        obtain ⟨va1, va2, va3, rfl⟩ := hcs.slice
        have hws := hbW.size
        have hSW : ∀ b, S b → b < W.heap.size := fun b h => by have := hS b h; omega
        have HC := veil (hcs.keep (Keeps.below ((Below.refl W.heap.size W).alloc (Nat.le_refl _) (.cells #[.int .i64 k', .int .i64 n', .string f', .string s', .slice va1 va2 va3] 87)) hSW))
        have HBW : Hid (Below W.heap.size W (W.alloc (.cells #[.int .i64 k', .int .i64 n', .string f', .string s', .slice va1 va2 va3] 87))) := (Below.refl _ _).alloc (Nat.le_refl _) _
        have cI := HIH.out (d + 1) (by omega) S t _ _ (by omega) (fun b h => by have := hSW b h; simp; omega) ⟨_, _, _, _, _, rfl, HC.out⟩
        have en : ((d + 1 : Nat) : Int) = (d : Int) + 1 := by omega
        rw [en] at cI
        clear HIH HC hcs
        go_enter Tryz.func248, Tryz.ntmps248
        go_wp2_with fail
        refine cI.mono ?_
        rintro e w3 ⟨rfl, hb3⟩
        go_wp2
        go_ret
        exact ⟨rfl, HBW.out.trans (hb3.mono (by simp))⟩
      · rintro e w3 ⟨rfl, hb3⟩
        go_wp2
        go_ret
        exact ⟨by rw [HF.out]; rfl, HB2.out.trans (hb3.mono (by omega))⟩

end Go.Proofs.YtagbaimfigljiaaGreatDoor
namespace Go.Proofs.YtagbaimfigljiaaGreatDoor
open Go.RowKit
set_option maxRecDepth 100000

theorem checkUse_any (s : ByteArray) (hs : s.size ≤ maxLen) (w : World) : Calls Tryz.prog 96 #[.string s] w fun e w' => e = .returned (.int .i64 (useFault s)) ∧ Below w.heap.size w w' := by
  have HT : Hid (useFault s = if identOk s = true then 0 else 4) := rfl
  cases h : identOk s
  · rw [if_neg (by rw [h]; simp)] at HT
    go_enter Tryz.func96, Tryz.ntmps96
    go_wp2_with fail
    refine (ident_any s hs _).mono ?_
    rintro e w1 ⟨rfl, hb⟩
    rw [h]
    go_wp2
    go_ret
    exact ⟨by rw [HT.out]; rfl, hb⟩
  · rw [if_pos h] at HT
    go_enter Tryz.func96, Tryz.ntmps96
    go_wp2_with fail
    refine (ident_any s hs _).mono ?_
    rintro e w1 ⟨rfl, hb⟩
    rw [h]
    go_wp2
    go_ret
    exact ⟨by rw [HT.out]; rfl, hb⟩

set_option maxHeartbeats 1000000 in
theorem checkField_any (S : Nat → Prop) (x : Fd) (v : Value) (w : World) (hS : ∀ b, S b → b < w.heap.size) (hx : FdIs S w x v) :
    Calls Tryz.prog 98 #[v] w fun e w' => e = .returned (.int .i64 (fdFault x)) ∧ Below w.heap.size w w' := by
  obtain ⟨k, f, n, va, rfl, hsz, hcs⟩ := hx
  obtain ⟨va1, va2, va3, rfl⟩ := hcs.slice
  have HT : Hid (fdFault x = if identOk x.name = true then tyFault x.is 1 else 4) := rfl
  have HB : Hid (Below w.heap.size w (w.alloc (.cells #[.string x.name, .int .i64 k, .string f, .string n, .slice va1 va2 va3] 101))) := (Below.refl _ _).alloc (Nat.le_refl _) _
  cases h : identOk x.name
  · rw [if_neg (by rw [h]; simp)] at HT
    go_enter Tryz.func98, Tryz.ntmps98
    go_wp2_with fail
    refine (ident_any x.name hsz _).mono ?_
    rintro e w1 ⟨rfl, hb⟩
    rw [h]
    go_wp2
    go_ret
    exact ⟨by rw [HT.out]; rfl, HB.out.trans (hb.mono (by simp))⟩
  · rw [if_pos h] at HT
    have HC := veil hcs
    clear hcs
    go_enter Tryz.func98, Tryz.ntmps98
    go_wp2_with fail
    refine (ident_any x.name hsz _).mono ?_
    rintro e w1 ⟨rfl, hb⟩
    rw [h]
    have hc := bcell hb
    have HB1 := veil (HB.out.trans (hb.mono (by simp)))
    clear hb
    go_wp2_with fail
    refine (checkType_any 10 1 (by omega) S x.is _ w1 (by omega) (fun b h => Nat.lt_of_lt_of_le (hS b h) HB1.out.size) ⟨k, f, n, _, rfl, HC.out.keep (Keeps.below HB1.out hS)⟩).mono ?_
    rintro e w2 ⟨rfl, hb2⟩
    go_wp2
    go_ret
    exact ⟨by rw [HT.out]; rfl, HB1.out.trans (hb2.mono HB1.out.size)⟩

theorem fdIs_first {S : Nat → Prop} {w W : World} (hS : ∀ b, S b → b < w.heap.size) (hb : Below w.heap.size w W) : ∀ b, S b → b < W.heap.size := fun b h => Nat.lt_of_lt_of_le (hS b h) hb.size

set_option maxHeartbeats 4000000 in
theorem checkFunc_any (S : Nat → Prop) (x : Fu) (v : Value) (w : World) (hS : ∀ b, S b → b < w.heap.size) (hx : FuIs S w x v) :
    Calls Tryz.prog 100 #[v] w fun e w' => e = .returned (.int .i64 (fuFault x)) ∧ Below w.heap.size w w' := by
  obtain ⟨vp, k, f, n, va, k', n', f', s', va', rfl, hsz, hsz1, hps, hcs, hce⟩ := hx
  obtain ⟨va1, va2, va3, rfl⟩ := hcs.slice
  obtain ⟨ve1, ve2, ve3, rfl⟩ := hce.slice
  obtain ⟨vp1, vp3, rfl, ⟨hplen, hplenC⟩, hprest⟩ := hps
  have HP : Hid (SlAt S (FdAt S w) 5 x.params (.slice vp1 x.params.length vp3)) := ⟨vp1, vp3, rfl, ⟨hplen, hplenC⟩, hprest⟩
  unfold maxLen at hplen
  have HC := veil hcs
  have HE := veil hce
  clear hcs hce hprest
  have HT : Hid (fuFault x = if identOk x.name = false ∨ noneOrIdent x.var = false then 4 else if 8 < x.params.length then 1 else
    if firstBad fdFault x.params ≠ 0 then firstBad fdFault x.params else if tyFault x.result 1 ≠ 0 then tyFault x.result 1 else exFault x.body 1) := rfl
  have HB : Hid (Below w.heap.size w (w.alloc (.cells #[.string x.name, .string x.var, .slice vp1 x.params.length vp3, .int .i64 k, .string f, .string n, .slice va1 va2 va3, .int .i64 k', .int .i64 n', .string f', .string s', .slice ve1 ve2 ve3] 89))) := (Below.refl _ _).alloc (Nat.le_refl _) _
  cases h : identOk x.name
  · rw [if_pos (Or.inl h)] at HT
    go_enter Tryz.func100, Tryz.ntmps100
    go_wp2_with fail
    refine (ident_any x.name hsz _).mono ?_
    rintro e w1 ⟨rfl, hb⟩
    rw [h]
    go_wp2
    go_ret
    exact ⟨by rw [HT.out]; rfl, HB.out.trans (hb.mono (by simp))⟩
  cases h2 : noneOrIdent x.var
  · rw [if_pos (Or.inr h2)] at HT
    go_enter Tryz.func100, Tryz.ntmps100
    go_wp2_with fail
    refine (ident_any x.name hsz _).mono ?_
    rintro e w1 ⟨rfl, hb⟩
    rw [h]
    have hc := bcell hb
    have HB1 := veil (HB.out.trans (hb.mono (by simp)))
    clear hb
    go_wp2_with fail
    refine (emptyOrIdent_any x.var hsz1 _).mono ?_
    rintro e w2 ⟨rfl, hb2⟩
    rw [h2]
    go_wp2
    go_ret
    exact ⟨by rw [HT.out]; rfl, HB1.out.trans (hb2.mono HB1.out.size)⟩
  rw [if_neg (by rw [h, h2]; simp)] at HT
  by_cases h8 : 8 < x.params.length
  · rw [if_pos h8] at HT
    have h8' : (8 : Int) < (x.params.length : Int) := by omega
    go_enter Tryz.func100, Tryz.ntmps100
    go_wp2_with fail
    refine (ident_any x.name hsz _).mono ?_
    rintro e w1 ⟨rfl, hb⟩
    rw [h]
    have hc := bcell hb
    have hz1 : w.heap.size < w1.heap.size := by have := hb.size; simp at this; omega
    have HB1 := veil (HB.out.trans (hb.mono (by simp)))
    clear hb
    go_wp2_with fail
    refine (emptyOrIdent_any x.var hsz1 _).mono ?_
    rintro e w2 ⟨rfl, hb2⟩
    rw [h2]
    have hc2 := bcell hb2
    go_wp2
    go_ret
    exact ⟨by rw [HT.out]; rfl, HB1.out.trans (hb2.mono HB1.out.size)⟩
  have h8' : ¬ (8 : Int) < (x.params.length : Int) := by omega
  rw [if_neg h8] at HT
  clear h8
  by_cases hp : firstBad fdFault x.params = 0
  rotate_left
  · rw [if_pos hp] at HT
    have hp' : (firstBad fdFault x.params != 0) = true := bne_iff_ne.2 hp
    clear hp
    go_enter Tryz.func100, Tryz.ntmps100
    go_wp2_with fail
    refine (ident_any x.name hsz _).mono ?_
    rintro e w1 ⟨rfl, hb⟩
    rw [h]
    have hc := bcell hb
    have hz1 : w.heap.size < w1.heap.size := by have := hb.size; simp at this; omega
    have HB1 := veil (HB.out.trans (hb.mono (by simp)))
    clear hb
    go_wp2_with fail
    refine (emptyOrIdent_any x.var hsz1 _).mono ?_
    rintro e w2 ⟨rfl, hb2⟩
    rw [h2]
    have hc2 := bcell hb2
    have HB2 := veil (HB1.out.trans (hb2.mono HB1.out.size))
    clear hb2
    go_wp2_with fail
    refine (first_fd 98 #[] (enters_of Tryz.func98 (by kernel_rfl) rfl) fdFault S x.params _ w2 (fdIs_first hS HB2.out) (fdSl_keep (Keeps.below HB2.out hS) HP.out)
      (fun t _ W u hbW hu => checkField_any S t u W (fdIs_first (fdIs_first hS HB2.out) hbW) hu)).mono ?_
    rintro e w3 ⟨rfl, hb3⟩
    go_wp2
    go_ret
    exact ⟨by rw [HT.out]; rfl, HB2.out.trans (hb3.mono HB2.out.size)⟩
  rw [if_neg (by rw [hp]; simp)] at HT
  have hp' : (firstBad fdFault x.params != 0) = false := by rw [hp]; rfl
  by_cases hr : tyFault x.result 1 = 0
  rotate_left
  · rw [if_pos hr] at HT
    have hr' : (tyFault x.result 1 != 0) = true := bne_iff_ne.2 hr
    clear hr hp
    go_enter Tryz.func100, Tryz.ntmps100
    go_wp2_with fail
    refine (ident_any x.name hsz _).mono ?_
    rintro e w1 ⟨rfl, hb⟩
    rw [h]
    have hc := bcell hb
    have hz1 : w.heap.size < w1.heap.size := by have := hb.size; simp at this; omega
    have HB1 := veil (HB.out.trans (hb.mono (by simp)))
    clear hb
    go_wp2_with fail
    refine (emptyOrIdent_any x.var hsz1 _).mono ?_
    rintro e w2 ⟨rfl, hb2⟩
    rw [h2]
    have hc2 := bcell hb2
    have hz2 : w.heap.size < w2.heap.size := Nat.lt_of_lt_of_le hz1 hb2.size
    have HB2 := veil (HB1.out.trans (hb2.mono HB1.out.size))
    clear hb2
    go_wp2_with fail
    refine (first_fd 98 #[] (enters_of Tryz.func98 (by kernel_rfl) rfl) fdFault S x.params _ w2 (fdIs_first hS HB2.out) (fdSl_keep (Keeps.below HB2.out hS) HP.out)
      (fun t _ W u hbW hu => checkField_any S t u W (fdIs_first (fdIs_first hS HB2.out) hbW) hu)).mono ?_
    rintro e w3 ⟨rfl, hb3⟩
    have hc3 := bcell hb3
    have HB3 := veil (HB2.out.trans (hb3.mono HB2.out.size))
    clear hb3
    go_wp2_with fail
    refine (checkType_any 10 1 (by omega) S x.result _ w3 (by omega) (fdIs_first hS HB3.out) ⟨k, f, n, _, rfl, HC.out.keep (Keeps.below HB3.out hS)⟩).mono ?_
    rintro e w4 ⟨rfl, hb4⟩
    go_wp2
    go_ret
    exact ⟨by rw [HT.out]; rfl, HB3.out.trans (hb4.mono HB3.out.size)⟩
  rw [if_neg (by rw [hr]; simp)] at HT
  have hr' : (tyFault x.result 1 != 0) = false := by rw [hr]; rfl
  clear hr hp
  go_enter Tryz.func100, Tryz.ntmps100
  go_wp2_with fail
  refine (ident_any x.name hsz _).mono ?_
  rintro e w1 ⟨rfl, hb⟩
  rw [h]
  have hc := bcell hb
  have hz1 : w.heap.size < w1.heap.size := by have := hb.size; simp at this; omega
  have HB1 := veil (HB.out.trans (hb.mono (by simp)))
  clear hb
  go_wp2_with fail
  refine (emptyOrIdent_any x.var hsz1 _).mono ?_
  rintro e w2 ⟨rfl, hb2⟩
  rw [h2]
  have hc2 := bcell hb2
  have hz2 : w.heap.size < w2.heap.size := Nat.lt_of_lt_of_le hz1 hb2.size
  have HB2 := veil (HB1.out.trans (hb2.mono HB1.out.size))
  clear hb2
  go_wp2_with fail
  refine (first_fd 98 #[] (enters_of Tryz.func98 (by kernel_rfl) rfl) fdFault S x.params _ w2 (fdIs_first hS HB2.out) (fdSl_keep (Keeps.below HB2.out hS) HP.out)
    (fun t _ W u hbW hu => checkField_any S t u W (fdIs_first (fdIs_first hS HB2.out) hbW) hu)).mono ?_
  rintro e w3 ⟨rfl, hb3⟩
  have hc3 := bcell hb3
  have hz3 : w.heap.size < w3.heap.size := Nat.lt_of_lt_of_le hz2 hb3.size
  have HB3 := veil (HB2.out.trans (hb3.mono HB2.out.size))
  clear hb3
  go_wp2_with fail
  refine (checkType_any 10 1 (by omega) S x.result _ w3 (by omega) (fdIs_first hS HB3.out) ⟨k, f, n, _, rfl, HC.out.keep (Keeps.below HB3.out hS)⟩).mono ?_
  rintro e w4 ⟨rfl, hb4⟩
  have hc4 := bcell hb4
  have HB4 := veil (HB3.out.trans (hb4.mono HB3.out.size))
  clear hb4
  go_wp2_with fail
  refine (checkExpr_any 10 1 (by omega) S x.body _ w4 (by omega) (fdIs_first hS HB4.out) ⟨k', n', f', s', _, rfl, HE.out.keep (Keeps.below HB4.out hS)⟩).mono ?_
  rintro e w5 ⟨rfl, hb5⟩
  go_wp2
  go_ret
  exact ⟨by rw [HT.out]; rfl, HB4.out.trans (hb5.mono HB4.out.size)⟩

set_option maxHeartbeats 4000000 in
theorem treeCheck_any (S : Nat → Prop) (x : Mo) (v : Value) (w : World) (hS : ∀ b, S b → b < w.heap.size) (hx : MoIs S w x v) :
    Calls Tryz.prog 42 #[v] w fun e w' => e = .returned (.int .i64 (moFault x)) ∧ Below w.heap.size w w' := by
  obtain ⟨vu, vt, vf, rfl, hu, ht, hf⟩ := hx
  obtain ⟨u1, u3, rfl, ⟨hul, hulC⟩, hur⟩ := hu
  obtain ⟨t1, t3, rfl, ⟨htl, htlC⟩, htr⟩ := ht
  obtain ⟨f1, f3, rfl, ⟨hfl, hflC⟩, hfr⟩ := hf
  have HU : Hid (SlAt S (StrAt w) 1 x.uses (.slice u1 x.uses.length u3)) := ⟨u1, u3, rfl, ⟨hul, hulC⟩, hur⟩
  have HTy : Hid (SlAt S (FdAt S w) 5 x.types (.slice t1 x.types.length t3)) := ⟨t1, t3, rfl, ⟨htl, htlC⟩, htr⟩
  have HFu : Hid (SlAt S (FuAt S w) 12 x.funcs (.slice f1 x.funcs.length f3)) := ⟨f1, f3, rfl, ⟨hfl, hflC⟩, hfr⟩
  clear hur htr hfr hul htl hfl
  have HT : Hid (moFault x = if 24 < wrap64 (wrap64 ((x.uses.length : Int) + x.types.length) + x.funcs.length) then 1 else
    if firstBad useFault x.uses ≠ 0 then firstBad useFault x.uses else if firstBad fdFault x.types ≠ 0 then firstBad fdFault x.types else firstBad fuFault x.funcs) := rfl
  have HB : Hid (Below w.heap.size w (w.alloc (.cells #[.slice u1 x.uses.length u3, .slice t1 x.types.length t3, .slice f1 x.funcs.length f3] 44))) := (Below.refl _ _).alloc (Nat.le_refl _) _
  by_cases h24 : 24 < wrap64 (wrap64 ((x.uses.length : Int) + x.types.length) + x.funcs.length)
  · rw [if_pos h24] at HT
    go_enter Tryz.func42, Tryz.ntmps42
    go_wp2_with fail
    go_ret
    exact ⟨by rw [HT.out]; rfl, HB.out⟩
  rw [if_neg h24] at HT
  by_cases hp : firstBad useFault x.uses = 0
  rotate_left
  · rw [if_pos hp] at HT
    have hp' : (firstBad useFault x.uses != 0) = true := bne_iff_ne.2 hp
    clear hp
    go_enter Tryz.func42, Tryz.ntmps42
    go_wp2_with fail
    refine (first_str 96 #[] (enters_of Tryz.func96 (by kernel_rfl) rfl) useFault S x.uses _ _ (fdIs_first hS HB.out) (strSl_keep (Keeps.below HB.out hS) HU.out) (fun t _ W u hbW hu => by obtain ⟨rfl, hz⟩ := hu; exact checkUse_any t hz W)).mono ?_
    rintro e w1 ⟨rfl, hb⟩
    go_wp2
    go_ret
    exact ⟨by rw [HT.out]; rfl, HB.out.trans (hb.mono (by simp))⟩
  rw [if_neg (by rw [hp]; simp)] at HT
  have hp' : (firstBad useFault x.uses != 0) = false := by rw [hp]; rfl
  clear hp
  by_cases hq : firstBad fdFault x.types = 0
  rotate_left
  · rw [if_pos hq] at HT
    have hq' : (firstBad fdFault x.types != 0) = true := bne_iff_ne.2 hq
    clear hq
    go_enter Tryz.func42, Tryz.ntmps42
    go_wp2_with fail
    refine (first_str 96 #[] (enters_of Tryz.func96 (by kernel_rfl) rfl) useFault S x.uses _ _ (fdIs_first hS HB.out) (strSl_keep (Keeps.below HB.out hS) HU.out) (fun t _ W u hbW hu => by obtain ⟨rfl, hz⟩ := hu; exact checkUse_any t hz W)).mono ?_
    rintro e w1 ⟨rfl, hb⟩
    have hc := bcell hb
    have HB1 := veil (HB.out.trans (hb.mono (by simp)))
    clear hb
    go_wp2_with fail
    refine (first_fd 98 #[] (enters_of Tryz.func98 (by kernel_rfl) rfl) fdFault S x.types _ w1 (fdIs_first hS HB1.out) (fdSl_keep (Keeps.below HB1.out hS) HTy.out)
      (fun t _ W u hbW hu => checkField_any S t u W (fdIs_first (fdIs_first hS HB1.out) hbW) hu)).mono ?_
    rintro e w2 ⟨rfl, hb2⟩
    go_wp2
    go_ret
    exact ⟨by rw [HT.out]; rfl, HB1.out.trans (hb2.mono HB1.out.size)⟩
  rw [if_neg (by rw [hq]; simp)] at HT
  have hq' : (firstBad fdFault x.types != 0) = false := by rw [hq]; rfl
  clear hq
  go_enter Tryz.func42, Tryz.ntmps42
  go_wp2_with fail
  refine (first_str 96 #[] (enters_of Tryz.func96 (by kernel_rfl) rfl) useFault S x.uses _ _ (fdIs_first hS HB.out) (strSl_keep (Keeps.below HB.out hS) HU.out) (fun t _ W u hbW hu => by obtain ⟨rfl, hz⟩ := hu; exact checkUse_any t hz W)).mono ?_
  rintro e w1 ⟨rfl, hb⟩
  have hc := bcell hb
  have hz1 : w.heap.size < w1.heap.size := by have := hb.size; simp at this; omega
  have HB1 := veil (HB.out.trans (hb.mono (by simp)))
  clear hb
  go_wp2_with fail
  refine (first_fd 98 #[] (enters_of Tryz.func98 (by kernel_rfl) rfl) fdFault S x.types _ w1 (fdIs_first hS HB1.out) (fdSl_keep (Keeps.below HB1.out hS) HTy.out)
    (fun t _ W u hbW hu => checkField_any S t u W (fdIs_first (fdIs_first hS HB1.out) hbW) hu)).mono ?_
  rintro e w2 ⟨rfl, hb2⟩
  have hc2 := bcell hb2
  have HB2 := veil (HB1.out.trans (hb2.mono HB1.out.size))
  clear hb2
  go_wp2_with fail
  refine (first_fu 100 #[] (enters_of Tryz.func100 (by kernel_rfl) rfl) fuFault S x.funcs _ w2 (fdIs_first hS HB2.out) (fuSl_keep (Keeps.below HB2.out hS) HFu.out)
    (fun t _ W u hbW hu => checkFunc_any S t u W (fdIs_first (fdIs_first hS HB2.out) hbW) hu)).mono ?_
  rintro e w3 ⟨rfl, hb3⟩
  go_wp2
  go_ret
  exact ⟨by rw [HT.out]; rfl, HB2.out.trans (hb3.mono HB2.out.size)⟩

end Go.Proofs.YtagbaimfigljiaaGreatDoor
