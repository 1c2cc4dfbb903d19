/- What tree.checkType and checkExpr, and the reference's typeFault and exprFault, answer, at every type and expression and at every depth: the first fault. -/
import Derived.Test.YtmgoabkopacnaacGreatDoorFirst
namespace Go.Proofs.YtmgoabkopacnaacGreatDoor
open Go.RowKit
set_option maxRecDepth 100000

theorem makeFunc_run (fn : Fn) (first cap : Array Value) (w : World) : (Instr.makeFunc fn first cap).run Tryz.prog w = .ok (.func fn first cap) w := rfl

set_option maxHeartbeats 2000000 in
theorem checkType_any : ∀ (m d : Nat), 10 < d + m → ∀ (S : Nat → Prop) (t : Ty) (v : Value) (w : World), d < 1000 → (∀ b, S b → b < w.heap.size) → TyIs S w t v →
    Calls Tryz.prog 55 #[v, .int .i64 d] w fun e w' => e = .returned (.int .i64 (tyFault t d)) ∧ Below w.heap.size w w' := by
  intro m
  induction m with
  | zero =>
    rintro d hd S t v w hd1 hS ⟨k, f, n, va, rfl, xs, rfl, hf, hn, hsl⟩
    have hd' : (10 : Int) < (d : Int) := by omega
    have HF : Hid (tyFault (.mk k f n xs) d = 1) := by show _ = _; rw [tyFault, if_pos (by omega)]
    obtain ⟨a, c, cap, rfl⟩ := hsl.slice
    clear hsl
    go_enter Tryz.func55, Tryz.ntmps55
    go_wp2_with fail
    go_ret
    exact ⟨by rw [HF.out]; rfl, ((Below.refl _ _).alloc (Nat.le_refl _) _).alloc (by simp) _⟩
  | succ m ih =>
    rintro d hd S t v w hd1 hS ⟨k, f, n, va, rfl, xs, rfl, hf, hn, hsl⟩
    have HIH := veil ih
    clear ih
    by_cases hd0 : 10 < d
    · have hd' : (10 : Int) < (d : Int) := by omega
      have HF : Hid (tyFault (.mk k f n xs) d = 1) := by show _ = _; rw [tyFault, if_pos (by omega)]
      obtain ⟨a, c, cap, rfl⟩ := hsl.slice
      clear hsl
      go_enter Tryz.func55, Tryz.ntmps55
      go_wp2_with fail
      go_ret
      exact ⟨by rw [HF.out]; rfl, ((Below.refl _ _).alloc (Nat.le_refl _) _).alloc (by simp) _⟩
    have hd' : ¬ (10 : Int) < (d : Int) := by omega
    cases hk : isIn k 1 4
    · have HF : Hid (tyFault (.mk k f n xs) d = 3) := by show _ = _; rw [tyFault, if_neg hd0, if_pos hk]
      obtain ⟨a, c, cap, rfl⟩ := hsl.slice
      clear hsl
      have hk2 : k < 1 ∨ 4 < k := by simp [isIn] at hk; omega
      clear hk
      rcases hk2 with hk2 | hk2
      · go_enter Tryz.func55, Tryz.ntmps55
        go_wp2_with fail
        go_ret
        exact ⟨by rw [HF.out]; rfl, ((Below.refl _ _).alloc (Nat.le_refl _) _).alloc (by simp) _⟩
      · have hk3 : ¬ k < 1 := by omega
        go_enter Tryz.func55, Tryz.ntmps55
        go_wp2_with fail
        go_ret
        exact ⟨by rw [HF.out]; rfl, ((Below.refl _ _).alloc (Nat.le_refl _) _).alloc (by simp) _⟩
    have hk2 : ¬ k < 1 := by simp [isIn] at hk; omega
    have hk3 : ¬ 4 < k := by simp [isIn] at hk; omega
    have HT : Hid (tyFault (.mk k f n xs) d = if tyFits k f n xs.length = false then 4 else tysFault xs (d + 1)) := by show _ = _; rw [tyFault, if_neg hd0, if_neg (by rw [hk]; simp)]
    clear hk
    obtain ⟨a, cap, rfl, hrest⟩ := hsl
    have HSL : Hid (SlAt S (TyAt S w) 4 xs (.slice a xs.length cap)) := ⟨a, cap, rfl, hrest⟩
    clear hrest
    have HB : Hid (Below w.heap.size w ((w.alloc (.cells #[.int .i64 k, .string f, .string n, .slice a xs.length cap] 64)).alloc (.cells #[.int .i64 d] 3))) := ((Below.refl _ _).alloc (Nat.le_refl _) _).alloc (by simp) _
    have hef := makeFunc_run
    cases hfit : tyFits k f n xs.length
    · have HF := veil (HT.out.trans (if_pos hfit))
      go_enter Tryz.func55, Tryz.ntmps55
      go_wp2_with fail
      refine (typeFits_any k f n a xs.length cap hf hn _).mono ?_
      rintro e w1 ⟨rfl, hb⟩
      rw [hfit]
      go_wp2
      go_ret
      exact ⟨by rw [HF.out]; rfl, HB.out.trans (hb.mono (by simp; omega))⟩
    · have HF := veil (HT.out.trans ((if_neg (by rw [hfit]; simp)).trans (tysFault_first xs (d + 1))))
      clear HT
      go_enter Tryz.func55, Tryz.ntmps55
      go_wp2_with fail
      refine (typeFits_any k f n a xs.length cap hf hn _).mono ?_
      rintro e w1 ⟨rfl, hb⟩
      rw [hfit]
      have c3 : w1.cell? ⟨w.heap.size, 3, none⟩ = some (.slice a xs.length cap) := (hb.cell (by simp; omega)).trans ((World.cell?_alloc_old _ _ _ (by simp)).trans (World.cell?_alloc_at _ _ _ _ rfl))
      have hcd : w1.cell? ⟨w.heap.size + 1, 0, none⟩ = some (.int .i64 d) := (hb.cell (by simp)).trans (World.cell?_alloc_at _ _ _ _ (by simp))
      have HCD := veil hcd
      have HB1 := veil (HB.out.trans (hb.mono (by simp; omega)))
      have hs1 : w.heap.size + 2 ≤ w1.heap.size := by have := hb.size; simp at this; omega
      clear hb hcd
      go_wp2_with fail
      refine (first_ty 84 #[.pointer (some ⟨w.heap.size + 1, 0, none⟩)] (enters_of Tryz.func84 (by kernel_rfl) rfl) (fun t => tyFault t (d + 1)) S xs _ w1 (fun b h => by have := hS b h; omega) (tySl_keep (Keeps.below HB1.out hS) HSL.out) ?_).mono ?_
      · rintro t ht W u hbW ⟨k', f', n', va', rfl, hcs⟩
        have hcd : W.cell? ⟨w.heap.size + 1, 0, none⟩ = some (.int .i64 d) := (hbW.cell (by show w.heap.size + 1 < w1.heap.size; omega)).trans HCD.out
        have hne : w.heap.size + 1 < W.heap.size := by have := hbW.size; omega
        obtain ⟨va1, va2, va3, rfl⟩ := hcs.slice
        have hws := hbW.size
        have hSW : ∀ b, S b → b < W.heap.size := fun b h => by have := hS b h; omega
        have HC := veil (hcs.keep (Keeps.below ((Below.refl W.heap.size W).alloc (Nat.le_refl _) (.cells #[.int .i64 k', .string f', .string n', .slice va1 va2 va3] 64)) hSW))
        have HBW : Hid (Below W.heap.size W (W.alloc (.cells #[.int .i64 k', .string f', .string n', .slice va1 va2 va3] 64))) := (Below.refl _ _).alloc (Nat.le_refl _) _
        have cI := HIH.out (d + 1) (by omega) S t _ _ (by omega) (fun b h => by have := hSW b h; simp; omega) ⟨_, _, _, _, rfl, HC.out⟩
        have en : ((d + 1 : Nat) : Int) = (d : Int) + 1 := by omega
        rw [en] at cI
        clear HIH HC hcs
        go_enter Tryz.func84, Tryz.ntmps84
        go_wp2_with fail
        refine cI.mono ?_
        rintro e w2 ⟨rfl, hb2⟩
        go_wp2
        go_ret
        exact ⟨rfl, HBW.out.trans (hb2.mono (by simp))⟩
      · rintro e w2 ⟨rfl, hb2⟩
        go_wp2
        go_ret
        exact ⟨by rw [HF.out]; rfl, HB1.out.trans (hb2.mono (by omega))⟩

theorem noneB_text (s : ByteArray) : (s.toList == []) = noneB s := text_eq s []

end Go.Proofs.YtmgoabkopacnaacGreatDoor
