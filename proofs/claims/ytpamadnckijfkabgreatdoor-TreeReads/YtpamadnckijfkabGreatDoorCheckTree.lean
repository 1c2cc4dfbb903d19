/- What tree.checkField, checkFunc and Check answer, at every field, function and module: the first fault. -/
import Derived.Test.YtpamadnckijfkabGreatDoorFaultX
namespace Go.Proofs.YtpamadnckijfkabGreatDoor
open Go.RowKit
set_option maxRecDepth 100000

theorem checkUse_any (s : ByteArray) (hs : s.size ≤ maxLen) (w : World) : Calls Tryz.prog 38 #[.string s] w fun e w' => e = .returned (.int .i64 (useFault s)) ∧ Below w.heap.size w w' := by
  have HT : Hid (useFault s = if identOk s = true then 0 else 4) := rfl
  cases h : identOk s
  · rw [if_neg (by rw [h]; simp)] at HT
    go_enter Tryz.func38, Tryz.ntmps38
    go_wp2_with fail
    refine (ident_any s hs _).mono ?_
    rintro e w1 ⟨rfl, hb⟩
    rw [h]
    go_wp2
    go_ret
    exact ⟨by rw [HT.out]; rfl, hb⟩
  · rw [if_pos h] at HT
    go_enter Tryz.func38, Tryz.ntmps38
    go_wp2_with fail
    refine (ident_any s hs _).mono ?_
    rintro e w1 ⟨rfl, hb⟩
    rw [h]
    go_wp2
    go_ret
    exact ⟨by rw [HT.out]; rfl, hb⟩

set_option maxHeartbeats 1000000 in
theorem checkField_any (S : Nat → Prop) (x : Fd) (v : Value) (w : World) (hS : ∀ b, S b → b < w.heap.size) (hx : FdIs S w x v) :
    Calls Tryz.prog 40 #[v] w fun e w' => e = .returned (.int .i64 (fdFault x)) ∧ Below w.heap.size w w' := by
  obtain ⟨k, f, n, va, rfl, hsz, hcs⟩ := hx
  obtain ⟨va1, va2, va3, rfl⟩ := hcs.slice
  have HT : Hid (fdFault x = if identOk x.name = true then tyFault x.is 1 else 4) := rfl
  have HB : Hid (Below w.heap.size w (w.alloc (.cells #[.string x.name, .int .i64 k, .string f, .string n, .slice va1 va2 va3] 63))) := (Below.refl _ _).alloc (Nat.le_refl _) _
  cases h : identOk x.name
  · rw [if_neg (by rw [h]; simp)] at HT
    go_enter Tryz.func40, Tryz.ntmps40
    go_wp2_with fail
    refine (ident_any x.name hsz _).mono ?_
    rintro e w1 ⟨rfl, hb⟩
    rw [h]
    go_wp2
    go_ret
    exact ⟨by rw [HT.out]; rfl, HB.out.trans (hb.mono (by simp))⟩
  · rw [if_pos h] at HT
    have HC := veil hcs
    clear hcs
    go_enter Tryz.func40, Tryz.ntmps40
    go_wp2_with fail
    refine (ident_any x.name hsz _).mono ?_
    rintro e w1 ⟨rfl, hb⟩
    rw [h]
    have hc := bcell hb
    have HB1 := veil (HB.out.trans (hb.mono (by simp)))
    clear hb
    go_wp2_with fail
    refine (checkType_any 10 1 (by omega) S x.is _ w1 (by omega) (fun b h => Nat.lt_of_lt_of_le (hS b h) HB1.out.size) ⟨k, f, n, _, rfl, HC.out.keep (Keeps.below HB1.out hS)⟩).mono ?_
    rintro e w2 ⟨rfl, hb2⟩
    go_wp2
    go_ret
    exact ⟨by rw [HT.out]; rfl, HB1.out.trans (hb2.mono HB1.out.size)⟩

theorem fdIs_first {S : Nat → Prop} {w W : World} (hS : ∀ b, S b → b < w.heap.size) (hb : Below w.heap.size w W) : ∀ b, S b → b < W.heap.size := fun b h => Nat.lt_of_lt_of_le (hS b h) hb.size

set_option maxHeartbeats 4000000 in
theorem checkFunc_any (S : Nat → Prop) (x : Fu) (v : Value) (w : World) (hS : ∀ b, S b → b < w.heap.size) (hx : FuIs S w x v) :
    Calls Tryz.prog 42 #[v] w fun e w' => e = .returned (.int .i64 (fuFault x)) ∧ Below w.heap.size w w' := by
  obtain ⟨vp, k, f, n, va, k', n', f', s', va', rfl, hsz, hsz1, hps, hcs, hce⟩ := hx
  obtain ⟨va1, va2, va3, rfl⟩ := hcs.slice
  obtain ⟨ve1, ve2, ve3, rfl⟩ := hce.slice
  obtain ⟨vp1, vp3, rfl, ⟨hplen, hplenC⟩, hprest⟩ := hps
  have HP : Hid (SlAt S (FdAt S w) 5 x.params (.slice vp1 x.params.length vp3)) := ⟨vp1, vp3, rfl, ⟨hplen, hplenC⟩, hprest⟩
  unfold maxLen at hplen
  have HC := veil hcs
  have HE := veil hce
  clear hcs hce hprest
  have HT : Hid (fuFault x = if identOk x.name = false ∨ noneOrIdent x.var = false then 4 else if 8 < x.params.length then 1 else
    if firstBad fdFault x.params ≠ 0 then firstBad fdFault x.params else if tyFault x.result 1 ≠ 0 then tyFault x.result 1 else exFault x.body 1) := rfl
  have HB : Hid (Below w.heap.size w (w.alloc (.cells #[.string x.name, .string x.var, .slice vp1 x.params.length vp3, .int .i64 k, .string f, .string n, .slice va1 va2 va3, .int .i64 k', .int .i64 n', .string f', .string s', .slice ve1 ve2 ve3] 54))) := (Below.refl _ _).alloc (Nat.le_refl _) _
  cases h : identOk x.name
  · rw [if_pos (Or.inl h)] at HT
    go_enter Tryz.func42, Tryz.ntmps42
    go_wp2_with fail
    refine (ident_any x.name hsz _).mono ?_
    rintro e w1 ⟨rfl, hb⟩
    rw [h]
    go_wp2
    go_ret
    exact ⟨by rw [HT.out]; rfl, HB.out.trans (hb.mono (by simp))⟩
  cases h2 : noneOrIdent x.var
  · rw [if_pos (Or.inr h2)] at HT
    go_enter Tryz.func42, Tryz.ntmps42
    go_wp2_with fail
    refine (ident_any x.name hsz _).mono ?_
    rintro e w1 ⟨rfl, hb⟩
    rw [h]
    have hc := bcell hb
    have HB1 := veil (HB.out.trans (hb.mono (by simp)))
    clear hb
    go_wp2_with fail
    refine (emptyOrIdent_any x.var hsz1 _).mono ?_
    rintro e w2 ⟨rfl, hb2⟩
    rw [h2]
    go_wp2
    go_ret
    exact ⟨by rw [HT.out]; rfl, HB1.out.trans (hb2.mono HB1.out.size)⟩
  rw [if_neg (by rw [h, h2]; simp)] at HT
  by_cases h8 : 8 < x.params.length
  · rw [if_pos h8] at HT
    have h8' : (8 : Int) < (x.params.length : Int) := by omega
    go_enter Tryz.func42, Tryz.ntmps42
    go_wp2_with fail
    refine (ident_any x.name hsz _).mono ?_
    rintro e w1 ⟨rfl, hb⟩
    rw [h]
    have hc := bcell hb
    have hz1 : w.heap.size < w1.heap.size := by have := hb.size; simp at this; omega
    have HB1 := veil (HB.out.trans (hb.mono (by simp)))
    clear hb
    go_wp2_with fail
    refine (emptyOrIdent_any x.var hsz1 _).mono ?_
    rintro e w2 ⟨rfl, hb2⟩
    rw [h2]
    have hc2 := bcell hb2
    go_wp2
    go_ret
    exact ⟨by rw [HT.out]; rfl, HB1.out.trans (hb2.mono HB1.out.size)⟩
  have h8' : ¬ (8 : Int) < (x.params.length : Int) := by omega
  rw [if_neg h8] at HT
  clear h8
  by_cases hp : firstBad fdFault x.params = 0
  rotate_left
  · rw [if_pos hp] at HT
    have hp' : (firstBad fdFault x.params != 0) = true := bne_iff_ne.2 hp
    clear hp
    go_enter Tryz.func42, Tryz.ntmps42
    go_wp2_with fail
    refine (ident_any x.name hsz _).mono ?_
    rintro e w1 ⟨rfl, hb⟩
    rw [h]
    have hc := bcell hb
    have hz1 : w.heap.size < w1.heap.size := by have := hb.size; simp at this; omega
    have HB1 := veil (HB.out.trans (hb.mono (by simp)))
    clear hb
    go_wp2_with fail
    refine (emptyOrIdent_any x.var hsz1 _).mono ?_
    rintro e w2 ⟨rfl, hb2⟩
    rw [h2]
    have hc2 := bcell hb2
    have HB2 := veil (HB1.out.trans (hb2.mono HB1.out.size))
    clear hb2
    go_wp2_with fail
    refine (first_fd 40 #[] (enters_of Tryz.func40 (by kernel_rfl) rfl) fdFault S x.params _ w2 (fdIs_first hS HB2.out) (fdSl_keep (Keeps.below HB2.out hS) HP.out)
      (fun t _ W u hbW hu => checkField_any S t u W (fdIs_first (fdIs_first hS HB2.out) hbW) hu)).mono ?_
    rintro e w3 ⟨rfl, hb3⟩
    go_wp2
    go_ret
    exact ⟨by rw [HT.out]; rfl, HB2.out.trans (hb3.mono HB2.out.size)⟩
  rw [if_neg (by rw [hp]; simp)] at HT
  have hp' : (firstBad fdFault x.params != 0) = false := by rw [hp]; rfl
  by_cases hr : tyFault x.result 1 = 0
  rotate_left
  · rw [if_pos hr] at HT
    have hr' : (tyFault x.result 1 != 0) = true := bne_iff_ne.2 hr
    clear hr hp
    go_enter Tryz.func42, Tryz.ntmps42
    go_wp2_with fail
    refine (ident_any x.name hsz _).mono ?_
    rintro e w1 ⟨rfl, hb⟩
    rw [h]
    have hc := bcell hb
    have hz1 : w.heap.size < w1.heap.size := by have := hb.size; simp at this; omega
    have HB1 := veil (HB.out.trans (hb.mono (by simp)))
    clear hb
    go_wp2_with fail
    refine (emptyOrIdent_any x.var hsz1 _).mono ?_
    rintro e w2 ⟨rfl, hb2⟩
    rw [h2]
    have hc2 := bcell hb2
    have hz2 : w.heap.size < w2.heap.size := Nat.lt_of_lt_of_le hz1 hb2.size
    have HB2 := veil (HB1.out.trans (hb2.mono HB1.out.size))
    clear hb2
    go_wp2_with fail
    refine (first_fd 40 #[] (enters_of Tryz.func40 (by kernel_rfl) rfl) fdFault S x.params _ w2 (fdIs_first hS HB2.out) (fdSl_keep (Keeps.below HB2.out hS) HP.out)
      (fun t _ W u hbW hu => checkField_any S t u W (fdIs_first (fdIs_first hS HB2.out) hbW) hu)).mono ?_
    rintro e w3 ⟨rfl, hb3⟩
    have hc3 := bcell hb3
    have HB3 := veil (HB2.out.trans (hb3.mono HB2.out.size))
    clear hb3
    go_wp2_with fail
    refine (checkType_any 10 1 (by omega) S x.result _ w3 (by omega) (fdIs_first hS HB3.out) ⟨k, f, n, _, rfl, HC.out.keep (Keeps.below HB3.out hS)⟩).mono ?_
    rintro e w4 ⟨rfl, hb4⟩
    go_wp2
    go_ret
    exact ⟨by rw [HT.out]; rfl, HB3.out.trans (hb4.mono HB3.out.size)⟩
  rw [if_neg (by rw [hr]; simp)] at HT
  have hr' : (tyFault x.result 1 != 0) = false := by rw [hr]; rfl
  clear hr hp
  go_enter Tryz.func42, Tryz.ntmps42
  go_wp2_with fail
  refine (ident_any x.name hsz _).mono ?_
  rintro e w1 ⟨rfl, hb⟩
  rw [h]
  have hc := bcell hb
  have hz1 : w.heap.size < w1.heap.size := by have := hb.size; simp at this; omega
  have HB1 := veil (HB.out.trans (hb.mono (by simp)))
  clear hb
  go_wp2_with fail
  refine (emptyOrIdent_any x.var hsz1 _).mono ?_
  rintro e w2 ⟨rfl, hb2⟩
  rw [h2]
  have hc2 := bcell hb2
  have hz2 : w.heap.size < w2.heap.size := Nat.lt_of_lt_of_le hz1 hb2.size
  have HB2 := veil (HB1.out.trans (hb2.mono HB1.out.size))
  clear hb2
  go_wp2_with fail
  refine (first_fd 40 #[] (enters_of Tryz.func40 (by kernel_rfl) rfl) fdFault S x.params _ w2 (fdIs_first hS HB2.out) (fdSl_keep (Keeps.below HB2.out hS) HP.out)
    (fun t _ W u hbW hu => checkField_any S t u W (fdIs_first (fdIs_first hS HB2.out) hbW) hu)).mono ?_
  rintro e w3 ⟨rfl, hb3⟩
  have hc3 := bcell hb3
  have hz3 : w.heap.size < w3.heap.size := Nat.lt_of_lt_of_le hz2 hb3.size
  have HB3 := veil (HB2.out.trans (hb3.mono HB2.out.size))
  clear hb3
  go_wp2_with fail
  refine (checkType_any 10 1 (by omega) S x.result _ w3 (by omega) (fdIs_first hS HB3.out) ⟨k, f, n, _, rfl, HC.out.keep (Keeps.below HB3.out hS)⟩).mono ?_
  rintro e w4 ⟨rfl, hb4⟩
  have hc4 := bcell hb4
  have HB4 := veil (HB3.out.trans (hb4.mono HB3.out.size))
  clear hb4
  go_wp2_with fail
  refine (checkExpr_any 10 1 (by omega) S x.body _ w4 (by omega) (fdIs_first hS HB4.out) ⟨k', n', f', s', _, rfl, HE.out.keep (Keeps.below HB4.out hS)⟩).mono ?_
  rintro e w5 ⟨rfl, hb5⟩
  go_wp2
  go_ret
  exact ⟨by rw [HT.out]; rfl, HB4.out.trans (hb5.mono HB4.out.size)⟩

set_option maxHeartbeats 4000000 in
theorem treeCheck_any (S : Nat → Prop) (x : Mo) (v : Value) (w : World) (hS : ∀ b, S b → b < w.heap.size) (hx : MoIs S w x v) :
    Calls Tryz.prog 12 #[v] w fun e w' => e = .returned (.int .i64 (moFault x)) ∧ Below w.heap.size w w' := by
  obtain ⟨vu, vt, vf, rfl, hu, ht, hf⟩ := hx
  obtain ⟨u1, u3, rfl, ⟨hul, hulC⟩, hur⟩ := hu
  obtain ⟨t1, t3, rfl, ⟨htl, htlC⟩, htr⟩ := ht
  obtain ⟨f1, f3, rfl, ⟨hfl, hflC⟩, hfr⟩ := hf
  have HU : Hid (SlAt S (StrAt w) 1 x.uses (.slice u1 x.uses.length u3)) := ⟨u1, u3, rfl, ⟨hul, hulC⟩, hur⟩
  have HTy : Hid (SlAt S (FdAt S w) 5 x.types (.slice t1 x.types.length t3)) := ⟨t1, t3, rfl, ⟨htl, htlC⟩, htr⟩
  have HFu : Hid (SlAt S (FuAt S w) 12 x.funcs (.slice f1 x.funcs.length f3)) := ⟨f1, f3, rfl, ⟨hfl, hflC⟩, hfr⟩
  clear hur htr hfr hul htl hfl
  have HT : Hid (moFault x = if 24 < wrap64 (wrap64 ((x.uses.length : Int) + x.types.length) + x.funcs.length) then 1 else
    if firstBad useFault x.uses ≠ 0 then firstBad useFault x.uses else if firstBad fdFault x.types ≠ 0 then firstBad fdFault x.types else firstBad fuFault x.funcs) := rfl
  have HB : Hid (Below w.heap.size w (w.alloc (.cells #[.slice u1 x.uses.length u3, .slice t1 x.types.length t3, .slice f1 x.funcs.length f3] 26))) := (Below.refl _ _).alloc (Nat.le_refl _) _
  by_cases h24 : 24 < wrap64 (wrap64 ((x.uses.length : Int) + x.types.length) + x.funcs.length)
  · rw [if_pos h24] at HT
    go_enter Tryz.func12, Tryz.ntmps12
    go_wp2_with fail
    go_ret
    exact ⟨by rw [HT.out]; rfl, HB.out⟩
  rw [if_neg h24] at HT
  by_cases hp : firstBad useFault x.uses = 0
  rotate_left
  · rw [if_pos hp] at HT
    have hp' : (firstBad useFault x.uses != 0) = true := bne_iff_ne.2 hp
    clear hp
    go_enter Tryz.func12, Tryz.ntmps12
    go_wp2_with fail
    refine (first_str 38 #[] (enters_of Tryz.func38 (by kernel_rfl) rfl) useFault S x.uses _ _ (fdIs_first hS HB.out) (strSl_keep (Keeps.below HB.out hS) HU.out) (fun t _ W u hbW hu => by obtain ⟨rfl, hz⟩ := hu; exact checkUse_any t hz W)).mono ?_
    rintro e w1 ⟨rfl, hb⟩
    go_wp2
    go_ret
    exact ⟨by rw [HT.out]; rfl, HB.out.trans (hb.mono (by simp))⟩
  rw [if_neg (by rw [hp]; simp)] at HT
  have hp' : (firstBad useFault x.uses != 0) = false := by rw [hp]; rfl
  clear hp
  by_cases hq : firstBad fdFault x.types = 0
  rotate_left
  · rw [if_pos hq] at HT
    have hq' : (firstBad fdFault x.types != 0) = true := bne_iff_ne.2 hq
    clear hq
    go_enter Tryz.func12, Tryz.ntmps12
    go_wp2_with fail
    refine (first_str 38 #[] (enters_of Tryz.func38 (by kernel_rfl) rfl) useFault S x.uses _ _ (fdIs_first hS HB.out) (strSl_keep (Keeps.below HB.out hS) HU.out) (fun t _ W u hbW hu => by obtain ⟨rfl, hz⟩ := hu; exact checkUse_any t hz W)).mono ?_
    rintro e w1 ⟨rfl, hb⟩
    have hc := bcell hb
    have HB1 := veil (HB.out.trans (hb.mono (by simp)))
    clear hb
    go_wp2_with fail
    refine (first_fd 40 #[] (enters_of Tryz.func40 (by kernel_rfl) rfl) fdFault S x.types _ w1 (fdIs_first hS HB1.out) (fdSl_keep (Keeps.below HB1.out hS) HTy.out)
      (fun t _ W u hbW hu => checkField_any S t u W (fdIs_first (fdIs_first hS HB1.out) hbW) hu)).mono ?_
    rintro e w2 ⟨rfl, hb2⟩
    go_wp2
    go_ret
    exact ⟨by rw [HT.out]; rfl, HB1.out.trans (hb2.mono HB1.out.size)⟩
  rw [if_neg (by rw [hq]; simp)] at HT
  have hq' : (firstBad fdFault x.types != 0) = false := by rw [hq]; rfl
  clear hq
  go_enter Tryz.func12, Tryz.ntmps12
  go_wp2_with fail
  refine (first_str 38 #[] (enters_of Tryz.func38 (by kernel_rfl) rfl) useFault S x.uses _ _ (fdIs_first hS HB.out) (strSl_keep (Keeps.below HB.out hS) HU.out) (fun t _ W u hbW hu => by obtain ⟨rfl, hz⟩ := hu; exact checkUse_any t hz W)).mono ?_
  rintro e w1 ⟨rfl, hb⟩
  have hc := bcell hb
  have hz1 : w.heap.size < w1.heap.size := by have := hb.size; simp at this; omega
  have HB1 := veil (HB.out.trans (hb.mono (by simp)))
  clear hb
  go_wp2_with fail
  refine (first_fd 40 #[] (enters_of Tryz.func40 (by kernel_rfl) rfl) fdFault S x.types _ w1 (fdIs_first hS HB1.out) (fdSl_keep (Keeps.below HB1.out hS) HTy.out)
    (fun t _ W u hbW hu => checkField_any S t u W (fdIs_first (fdIs_first hS HB1.out) hbW) hu)).mono ?_
  rintro e w2 ⟨rfl, hb2⟩
  have hc2 := bcell hb2
  have HB2 := veil (HB1.out.trans (hb2.mono HB1.out.size))
  clear hb2
  go_wp2_with fail
  refine (first_fu 42 #[] (enters_of Tryz.func42 (by kernel_rfl) rfl) fuFault S x.funcs _ w2 (fdIs_first hS HB2.out) (fuSl_keep (Keeps.below HB2.out hS) HFu.out)
    (fun t _ W u hbW hu => checkFunc_any S t u W (fdIs_first (fdIs_first hS HB2.out) hbW) hu)).mono ?_
  rintro e w3 ⟨rfl, hb3⟩
  go_wp2
  go_ret
  exact ⟨by rw [HT.out]; rfl, HB2.out.trans (hb3.mono HB2.out.size)⟩

end Go.Proofs.YtpamadnckijfkabGreatDoor
