import Derived.Test.YtagbaimfigljiaaGreatDoorJCk23
import Derived.Test.YtagbaimfigljiaaGreatDoorJCk12
import Derived.Deep.RegionWith
namespace Go.Proofs.YtagbaimfigljiaaGreatDoor
open Go.RowKit
set_option maxRecDepth 100000

theorem intK_list : intK.toList = [105, 110, 116] := by simp [intK, ByteArray.toList, ByteArray.toList.loop, ByteArray.size, ByteArray.get!]
theorem textK_list : textK.toList = [116, 101, 120, 116] := by simp [textK, ByteArray.toList, ByteArray.toList.loop, ByteArray.size, ByteArray.get!]

/-- what a try tells, as a call tells it. -/
def fitR (t : ByteArray) (ok : Bool) : ByteArray × Int := if ok = true then (t, 0) else badEx 8

theorem fitting_any (t : ByteArray) (ok : Bool) (w : World) :
    Calls Tryz.prog 306 #[.string t, .bool ok] w fun e w' => e = .returned (.tuple #[.string (fitR t ok).1, .int .i64 (fitR t ok).2]) ∧ w = w' := by
  cases ok <;>
    (go_enter Tryz.func306, Tryz.ntmps306
     go_wp2_with fail
     go_ret2
     exact ⟨rfl, rfl⟩)

set_option maxHeartbeats 1000000 in
theorem sum_any (x y : ByteArray) (w : World) :
    Calls Tryz.prog 327 #[.string x, .string y] w fun e w' => (∃ t ok, e = .returned (.tuple #[.string t, .bool ok]) ∧ finIs 5 noSg [x, y] = fitR t ok) ∧ w = w' := by
  have hR : finIs 5 noSg [x, y] = if (x.toList == y.toList) && ((x.toList == [105, 110, 116]) || (x.toList == [116, 101, 120, 116])) then (x, 0) else badEx 8 := by
    unfold finIs
    rw [if_neg (by decide), if_pos rfl]
    simp only [sEq, intK_list, textK_list]
    rfl
  have HR : Hid (∀ ok, ((x.toList == y.toList) && ((x.toList == [105, 110, 116]) || (x.toList == [116, 101, 120, 116]))) = ok → finIs 5 noSg [x, y] = fitR x ok) := fun ok h => by rw [hR, h]; rfl
  clear hR
  cases h1 : (x.toList == y.toList) with
  | false =>
    have HF := veil (HR.out false (by rw [h1]; rfl))
    go_enter Tryz.func327, Tryz.ntmps327
    go_wp2_with fail
    go_ret2
    exact ⟨⟨_, _, rfl, HF.out⟩, rfl⟩
  | true =>
    cases h2 : (x.toList == [105, 110, 116]) with
    | true =>
      have HF := veil (HR.out true (by rw [h1, h2]; rfl))
      go_enter Tryz.func327, Tryz.ntmps327
      go_wp2_with fail
      go_ret2
      exact ⟨⟨_, _, rfl, HF.out⟩, rfl⟩
    | false =>
      cases h3 : (x.toList == [116, 101, 120, 116]) with
      | true =>
        have HF := veil (HR.out true (by rw [h1, h2, h3]; rfl))
        go_enter Tryz.func327, Tryz.ntmps327
        go_wp2_with fail
        go_ret2
        exact ⟨⟨_, _, rfl, HF.out⟩, rfl⟩
      | false =>
        have HF := veil (HR.out false (by rw [h1, h2, h3]; rfl))
        go_enter Tryz.func327, Tryz.ntmps327
        go_wp2_with fail
        go_ret2
        exact ⟨⟨_, _, rfl, HF.out⟩, rfl⟩

set_option maxHeartbeats 1000000 in
theorem element_any (x y : ByteArray) (hx : x.size ≤ 281474976710656) (w : World) :
    Calls Tryz.prog 328 #[.string x, .string y] w fun e w' => (∃ t ok, e = .returned (.tuple #[.string t, .bool ok]) ∧ finIs 7 noSg [x, y] = fitR t ok) ∧ Below w.heap.size w w' := by
  have hm : x.size ≤ maxLen := by unfold maxLen; omega
  have hR : finIs 7 noSg [x, y] = if isList x && (y.toList == [105, 110, 116]) then (inner x, 0) else badEx 8 := by
    unfold finIs
    rw [if_neg (by decide), if_neg (by decide), if_neg (by decide)]
    simp only [sEq, intK_list]
    rfl
  cases h2 : (y.toList == [105, 110, 116]) with
  | false =>
    have HF : Hid (finIs 7 noSg [x, y] = fitR ⟨#[]⟩ false) := by show _ = _; rw [hR, h2]; simp [fitR]
    have h2' : (y.toList != [105, 110, 116]) = true := by simp [bne, h2]
    clear hR
    go_enter Tryz.func328, Tryz.ntmps328
    go_wp2_with fail
    go_ret2
    exact ⟨⟨_, _, rfl, HF.out⟩, Below.refl _ _⟩
  | true =>
    have h2' : (y.toList != [105, 110, 116]) = false := by simp [bne, h2]
    cases h1 : isList x with
    | false =>
      have HF : Hid (finIs 7 noSg [x, y] = fitR ⟨#[]⟩ false) := by show _ = _; rw [hR, h1]; simp [fitR]
      have HEl := veil (fun W => elem_none hm h1 W)
      clear hR h1
      go_enter Tryz.func328, Tryz.ntmps328
      go_wp2_with fail
      refine (HEl.out _).mono ?_
      rintro e w6 ⟨rfl, rfl⟩
      go_wp2_with fail
      go_ret2
      exact ⟨⟨_, _, rfl, HF.out⟩, Below.refl _ _⟩
    | true =>
      have HF : Hid (finIs 7 noSg [x, y] = fitR (inner x) true) := by show _ = _; rw [hR, h1, h2]; simp [fitR]
      have HEl := veil (fun W => elem_list hx h1 W)
      clear hR h1
      go_enter Tryz.func328, Tryz.ntmps328
      go_wp2_with fail
      refine (HEl.out _).mono ?_
      rintro e w6 ⟨rfl, hb⟩
      have HB := veil hb
      clear hb
      go_wp2_with fail
      go_ret2
      exact ⟨⟨_, _, rfl, HF.out⟩, HB.out⟩

/-! ### Items: are all the same? -/

theorem itemCl_any (S : Nat → Prop) (is : List ByteArray) (t : ByteArray) (B : Nat) (v : Value) (w : World) (hv : SlAt S (StrAt w) 1 is v) (hn : 0 < is.length) (hp : w.cell? ⟨B, 0, none⟩ = some v) :
    Calls Tryz.prog 343 #[.string t, .pointer (some ⟨B, 0, none⟩)] w fun e w' => e = .returned (.bool (!sEq t is[0])) ∧ w = w' := by
  obtain ⟨a, cap, rfl⟩ := hv.is
  obtain ⟨_, b, off, rfl, _, a0, _⟩ := hv.at hn
  rw [Nat.zero_mul, Nat.add_zero] at a0
  have hn' : (0 : Int) < (is.length : Int) := by omega
  have HE : Hid ((!sEq t is[0]) = (t.toList != is[0].toList)) := rfl
  clear hv
  generalize is[0] = x at *
  go_enter Tryz.func343, Tryz.ntmps343
  go_wp2_with fail
  go_ret
  exact ⟨by rw [HE.out]; rfl, rfl⟩

set_option maxHeartbeats 2000000 in
theorem index_item (S : Nat → Prop) (l : List ByteArray) (B : Nat) (v : Value) (w : World) (hS : ∀ b, S b → b < w.heap.size) (hv : SlAt S (StrAt w) 1 l v) (hn : 0 < l.length) (hp : w.cell? ⟨B, 0, none⟩ = some v) :
    Calls Tryz.prog 355 #[v, .func (.func 343) #[] #[.pointer (some ⟨B, 0, none⟩)]] w fun e w' => e = .returned (.int .i64 (idxOf (fun t => !sEq t l[0]) l)) ∧ Below w.heap.size w w' := by
  have HV := veil hv
  have hlen := hv.len
  unfold maxLen at hlen
  have HCl : Hid (∀ W t, Below w.heap.size w W → Calls Tryz.prog 343 #[.string t, .pointer (some ⟨B, 0, none⟩)] W fun e w' => e = .returned (.bool (!sEq t l[0])) ∧ W = w') := fun W t hW =>
    itemCl_any S l t B v W (strSl_keep (Keeps.below hW hS) hv) hn ((hW.cell (World.block_lt_of_cell? _ _ hp)).trans hp)
  obtain ⟨a, cap, rfl⟩ := hv.is
  clear hv hp
  generalize l[0] = x0 at *
  go_enter Tryz.func355, Tryz.ntmps355
  go_wp2_with fail
  go_loopw [8] (fun i wr => ∃ j : Nat, j ≤ l.length ∧ i = .int .i64 j ∧ findAt (fun t => !sEq t x0) l = j + findAt (fun t => !sEq t x0) (l.drop j) ∧ Below w.heap.size w wr) (fun i _ => l.length - (intOf i).toNat)
  case atStart => exact ⟨0, Nat.zero_le _, rfl, (Nat.zero_add _).symm, Below.refl _ _⟩
  case round =>
    obtain ⟨j, hj, rfl, hq, hbl⟩ := hrel
    have HQ := veil hq
    have HBW := veil hbl
    clear hq
    by_cases hlt : j < l.length
    · have hlt' : (j : Int) < (l.length : Int) := by omega
      obtain ⟨_, b, off, rfl, hb, a0, m0⟩ := HV.out.at hlt
      have hbk := hS b hb
      rw [Nat.mul_one] at a0
      have d0 := (hbl.cell (p := ⟨b, off + j, none⟩) hbk).trans a0
      have HC := veil (HCl.out wr l[j] hbl)
      have HYes : Hid ((!sEq l[j] x0) = true → findAt (fun t => !sEq t x0) l = j) := fun h => by
        rw [HQ.out, find_yes (p := fun t => !sEq t x0) hlt h]; rfl
      have HNo : Hid ((!sEq l[j] x0) = false → findAt (fun t => !sEq t x0) l = (j + 1) + findAt (fun t => !sEq t x0) (l.drop (j + 1))) := fun h => by
        rw [HQ.out, find_no (p := fun t => !sEq t x0) hlt h]; omega
      clear a0 m0 HV hbl HQ HCl
      generalize l[j] = x at *
      generalize hx : (!sEq x x0) = r at *
      cases r with
      | true =>
        have HI : Hid (idxOf (fun t => !sEq t x0) l = (j : Int)) := by
          show _ = _
          unfold idxOf
          rw [HYes.out rfl, if_pos hlt]
        clear HYes HNo hx
        go_wp2_with fail
        refine HC.out.mono ?_
        rintro e w1 ⟨rfl, rfl⟩
        go_wp2_with fail
        go_ret
        exact ⟨by rw [HI.out]; rfl, HBW.out⟩
      | false =>
        have HN := veil (HNo.out rfl)
        clear HYes HNo hx
        go_wp2_with fail
        refine HC.out.mono ?_
        rintro e w1 ⟨rfl, rfl⟩
        go_wp2_with fail
        exact ⟨⟨j + 1, by omega, by go_num, HN.out, HBW.out⟩, by simp [intOf]; omega⟩
    · have hnl : ¬ (j : Int) < (l.length : Int) := by omega
      have HI : Hid (idxOf (fun t => !sEq t x0) l = -1) := by
        show _ = _
        unfold idxOf
        rw [HQ.out, find_end (by omega), if_neg (by omega)]
      clear HV hbl HQ HCl
      go_wp2_with fail
      go_ret
      exact ⟨by rw [HI.out]; rfl, HBW.out⟩

theorem find_all {α : Type} (p : α → Bool) : ∀ l : List α, decide (findAt (fun x => !p x) l < l.length) = !l.all p
  | [] => by simp [findAt]
  | x :: r => by
    have ih := find_all p r
    cases hx : p x with
    | true =>
      rw [findAt, if_neg (by rw [hx]; decide), List.all_cons, hx, Bool.true_and, ← ih]
      simp
    | false =>
      rw [findAt, if_pos (by rw [hx]; decide), List.all_cons, hx]
      simp

set_option maxHeartbeats 1000000 in
theorem some_item (S : Nat → Prop) (l : List ByteArray) (B : Nat) (v : Value) (w : World) (hS : ∀ b, S b → b < w.heap.size) (hv : SlAt S (StrAt w) 1 l v) (hn : 0 < l.length) (hp : w.cell? ⟨B, 0, none⟩ = some v) :
    Calls Tryz.prog 342 #[v, .func (.func 343) #[] #[.pointer (some ⟨B, 0, none⟩)]] w fun e w' => e = .returned (.bool (!l.all (fun t => sEq t l[0]))) ∧ Below w.heap.size w w' := by
  have HC := veil (index_item S l B v w hS hv hn hp)
  have hE : decide (0 ≤ idxOf (fun t => !sEq t l[0]) l) = !l.all (fun t => sEq t l[0]) := by
    rw [← find_all]
    unfold idxOf
    by_cases h : findAt (fun t => !sEq t l[0]) l < l.length
    · rw [if_pos h]; simp [h]
    · rw [if_neg h]; simp [h]
  have HE := veil hE
  obtain ⟨a, cap, rfl⟩ := hv.is
  clear hv hE
  generalize idxOf (fun t => !sEq t l[0]) l = r at *
  go_enter Tryz.func342, Tryz.ntmps342
  go_wp2_with fail
  refine HC.out.mono ?_
  rintro e w1 ⟨rfl, hb1⟩
  have HB1 := veil hb1
  clear hb1
  go_wp2_with fail
  go_ret
  exact ⟨by rw [← HE.out]; rfl, HB1.out⟩

set_option maxHeartbeats 2000000 in
theorem items_any (S : Nat → Prop) (l : List ByteArray) (v : Value) (w : World) (hS : ∀ b, S b → b < w.heap.size) (hv : SlAt S (StrAt w) 1 l v) (hn : 0 < l.length) :
    Calls Tryz.prog 326 #[v] w fun e w' => (∃ t ok, e = .returned (.tuple #[.string t, .bool ok]) ∧ finIs 6 noSg l = fitR t ok) ∧ Below w.heap.size w w' := by
  obtain ⟨w2, hwe, hs2, p1, hbel⟩ : ∃ w2, w.alloc (.cells #[v] 22) = w2 ∧ w2.heap.size = w.heap.size + 1 ∧ w2.cell? ⟨w.heap.size, 0, none⟩ = some v ∧ Below w.heap.size w w2 :=
    ⟨_, rfl, by simp, by simp [go_sem], (Below.refl _ _).alloc (Nat.le_refl _) _⟩
  have hv2 := strSl_keep (Keeps.below hbel hS) hv
  have HC := veil (some_item S l w.heap.size v w2 (fun b hb => Nat.lt_of_lt_of_le (hS b hb) hbel.size) hv2 hn p1)
  obtain ⟨a, cap, rfl⟩ := hv.is
  obtain ⟨_, b, off, rfl, hb, a0, m0⟩ := hv2.at hn
  rw [Nat.zero_mul, Nat.add_zero] at a0
  have hb2 := Nat.lt_of_lt_of_le (hS b hb) hbel.size
  have hg : l.getD 0 .empty = l[0] := by rw [List.getD_eq_getElem?_getD, List.getElem?_eq_getElem hn, Option.getD_some]
  have hR : finIs 6 noSg l = if l.all (fun i => sEq i l[0]) then (if listErr l[0] = 0 then (wrapK l[0], 0) else badEx 8) else badEx 8 := by
    unfold finIs
    rw [if_neg (by decide), if_neg (by decide), if_pos rfl, hg]
  have HWe := veil hwe
  have HBel := veil hbel
  have hn' : (0 : Int) < (l.length : Int) := by omega
  have hl2 : w.heap.size < w2.heap.size := by omega
  clear hv hv2 hg hwe hbel
  generalize l[0] = x at *
  generalize hall : l.all (fun i => sEq i x) = al at *
  cases al with
  | false =>
    have HF : Hid (finIs 6 noSg l = fitR ⟨#[]⟩ false) := by show _ = _; rw [hR]; simp [fitR]
    clear hR hall
    go_enter Tryz.func326, Tryz.ntmps326
    go_wp2_with fail
    rw [HWe.out]
    refine HC.out.mono ?_
    rintro e w1 ⟨rfl, hb1⟩
    have HB1 := veil (HBel.out.trans (hb1.mono HBel.out.size))
    clear hb1
    go_wp2_with fail
    go_ret2
    exact ⟨⟨_, _, rfl, HF.out⟩, HB1.out⟩
  | true =>
    by_cases he : listErr x = 0
    · have HF : Hid (finIs 6 noSg l = fitR (wrapK x) true) := by show _ = _; rw [hR, if_pos rfl, if_pos he]; rfl
      have HK := veil (fun W => listOf_good he W)
      clear hR hall he
      go_enter Tryz.func326, Tryz.ntmps326
      go_wp2_with fail
      rw [HWe.out]
      refine HC.out.mono ?_
      rintro e w1 ⟨rfl, hb1⟩
      have e0 := (hb1.cell (p := ⟨w.heap.size, 0, none⟩) hl2).trans p1
      have e1 := (hb1.cell (p := ⟨b, off, none⟩) hb2).trans a0
      have HB1 := veil (HBel.out.trans (hb1.mono HBel.out.size))
      clear hb1 p1 a0
      go_wp2_with fail
      refine (HK.out _).mono ?_
      rintro e w6 ⟨rfl, rfl⟩
      go_wp2_with fail
      go_ret2
      exact ⟨⟨_, _, rfl, HF.out⟩, HB1.out⟩
    · have HF : Hid (finIs 6 noSg l = fitR ⟨#[]⟩ false) := by show _ = _; rw [hR, if_pos rfl, if_neg he]; rfl
      have HK := veil (fun W => listOf_bad m0 he W)
      have he' : (listErr x == 0) = false := by simp [he]
      clear hR hall he
      generalize listErr x = le at *
      go_enter Tryz.func326, Tryz.ntmps326
      go_wp2_with fail
      rw [HWe.out]
      refine HC.out.mono ?_
      rintro e w1 ⟨rfl, hb1⟩
      have e0 := (hb1.cell (p := ⟨w.heap.size, 0, none⟩) hl2).trans p1
      have e1 := (hb1.cell (p := ⟨b, off, none⟩) hb2).trans a0
      have HB1 := veil (HBel.out.trans (hb1.mono HBel.out.size))
      clear hb1 p1 a0
      go_wp2_with fail
      refine (HK.out _).mono ?_
      rintro e w6 ⟨rfl, rfl⟩
      go_wp2_with fail
      go_ret2
      exact ⟨⟨_, _, rfl, HF.out⟩, HB1.out⟩

/-! ### made. -/

set_option maxHeartbeats 2000000 in
theorem made_any (S : Nat → Prop) (k : Int) (l : List ByteArray) (v : Value) (w : World) (hS : ∀ b, S b → b < w.heap.size) (hv : SlAt S (StrAt w) 1 l v) (hk : k = 5 ∨ k = 6 ∨ k = 7) (hc : countFits k l.length = true) (hsz : ∀ t ∈ l, t.size ≤ 281474976710656) :
    Calls Tryz.prog 307 #[.int .i64 k, v] w fun e w' => (∃ t ok, e = .returned (.tuple #[.string t, .bool ok]) ∧ finIs k noSg l = fitR t ok) ∧ Below w.heap.size w w' := by
  rcases hk with rfl | rfl | rfl
  · have hn : l.length = 2 := by simpa [countFits] using hc
    obtain ⟨x, y, rfl⟩ : ∃ x y, l = [x, y] := by
      match l, hn with
      | [x, y], _ => exact ⟨x, y, rfl⟩
    obtain ⟨a, cap, rfl, _, h0⟩ := hv
    rcases h0 with h0 | ⟨b, off, rfl, hb, ⟨s0, _⟩, ⟨s1, _⟩, _⟩
    · cases h0
    have HC := veil (fun W => sum_any x y W)
    clear hc hn hsz
    have hl2 : (([x, y] : List ByteArray).length : Int) = 2 := rfl
    go_enter Tryz.func307, Tryz.ntmps307
    go_wp2_with fail
    go_region_with (go_at_call 327; refine (HC.out _).mono ?_; rintro e w6 ⟨⟨t, ok, rfl, hf⟩, rfl⟩)
    all_goals
      have HF := veil hf
      clear hf
      go_wp2_with fail
      go_ret2
      exact ⟨⟨_, _, rfl, HF.out⟩, (Below.refl _ _).drew⟩
  · have hn : 0 < l.length := by simpa [countFits] using hc
    have HC := veil (items_any S l v w hS hv hn)
    have hn' : (0 : Int) < (l.length : Int) := by omega
    obtain ⟨a, cap, rfl⟩ := hv.is
    clear hc hv hsz
    go_enter Tryz.func307, Tryz.ntmps307
    go_wp2_with fail
    refine HC.out.mono ?_
    rintro e w6 ⟨⟨t, ok, rfl, hf⟩, hb⟩
    have HF := veil hf
    have HB := veil hb
    clear hf hb
    go_wp2_with fail
    go_ret2
    exact ⟨⟨_, _, rfl, HF.out⟩, HB.out⟩
  · have hn : l.length = 2 := by simpa [countFits] using hc
    obtain ⟨x, y, rfl⟩ : ∃ x y, l = [x, y] := by
      match l, hn with
      | [x, y], _ => exact ⟨x, y, rfl⟩
    obtain ⟨a, cap, rfl, _, h0⟩ := hv
    rcases h0 with h0 | ⟨b, off, rfl, hb, ⟨s0, _⟩, ⟨s1, _⟩, _⟩
    · cases h0
    have HC := veil (fun W => element_any x y (hsz x (by simp)) W)
    clear hc hn hsz
    have hl2 : (([x, y] : List ByteArray).length : Int) = 2 := rfl
    go_enter Tryz.func307, Tryz.ntmps307
    go_wp2_with fail
    go_region_with (go_at_call 328; refine (HC.out _).mono ?_; rintro e w6 ⟨⟨t, ok, rfl, hf⟩, hb⟩)
    all_goals
      have HF := veil hf
      have HB := veil ((Below.refl w.heap.size w).drew.trans (hb.mono (Nat.le_refl _)))
      clear hf hb
      go_wp2_with fail
      go_ret2
      exact ⟨⟨_, _, rfl, HF.out⟩, HB.out⟩

end Go.Proofs.YtagbaimfigljiaaGreatDoor
