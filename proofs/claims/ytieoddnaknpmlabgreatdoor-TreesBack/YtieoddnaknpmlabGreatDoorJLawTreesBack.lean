/- A module is read as it was shown, and shown as it was read (TreesBack), without conditions. The card is tied to the program's text. -/
import Derived.Test.YtieoddnaknpmlabGreatDoorJT
import Derived.Test.YtieoddnaknpmlabGreatDoorJO
import Derived.Test.YtieoddnaknpmlabGreatDoorJReadTree
import Derived.Test.YtieoddnaknpmlabGreatDoorTie
import Derived.Test.YtieoddnaknpmlabGreatDoorCards
import Derived.ProofKit
import Derived.OpenShut
import Derived.ShutString
import Derived.ChangeOld
import Derived.Lay
import Derived.LaidMore
import Derived.Stop.Joined
import Derived.SevenTiedAt
import Derived.Lib.LaidTab
import Derived.Stop.LaidErr
import Derived.SizedLaws
namespace Go.Proofs.YtieoddnaknpmlabGreatDoor.treesBack
open Go.ChangeShapes Go.WideShapes Go.ChangeAt Go.RowKit
set_option maxRecDepth 100000
open Go.ChangeMaps (open_string shut_string)

theorem own : ownKnob Tryz.prog.godebug = none := by kernel_rfl
theorem laidOut : laidOutB Tryz.prog = true := by kernel_rfl

theorem mo_slices {S : Nat → Prop} {w : World} {m : Mo} {v : Value} (h : MoIs S w m v) : ∃ a1 c1 a2 c2 a3 c3, v = .agg #[.slice a1 m.uses.length c1, .slice a2 m.types.length c2, .slice a3 m.funcs.length c3] := by
  obtain ⟨vu, vt, vf, rfl, ⟨a1, c1, rfl, _⟩, ⟨a2, c2, rfl, _⟩, ⟨a3, c3, rfl, _⟩⟩ := h
  exact ⟨a1, c1, a2, c2, a3, c3, rfl⟩

theorem box_mo (w : World) (x y z : Value) : ∃ w', w.alloc (.cells #[x, y, z] 26) = w' ∧ w'.heap.size = w.heap.size + 1 ∧ w'.cell? ⟨w.heap.size, 0, none⟩ = some x ∧ w'.cell? ⟨w.heap.size, 1, none⟩ = some y ∧ w'.cell? ⟨w.heap.size, 2, none⟩ = some z ∧ Below w.heap.size w w' :=
  ⟨_, rfl, by simp, World.cell?_alloc_at _ _ _ _ rfl, World.cell?_alloc_at _ _ _ _ rfl, World.cell?_alloc_at _ _ _ _ rfl, (Below.refl _ _).alloc (Nat.le_refl _) _⟩

theorem mo_now {n : Nat} {w w' : World} {m : Mo} {v : Value} (h : MoIs (Fresh n w) w m v) (hb : Below w.heap.size w w') : MoIs (fun b => b < w'.heap.size) w' m v :=
  h.keep ⟨fun b hb' => hb.block b hb'.2, fun _ hb' => Nat.lt_of_lt_of_le hb'.2 hb.size⟩

set_option maxHeartbeats 4000000 in
theorem walk (v : Value) (l : List Rw) (s : ByteArray) (w : World) (hv : SlAt (fun b => b < w.heap.size) (RwAt w) 4 l v) (hnm : NamesIn w) (htab : TabIn w.heap.size w) :
    Calls Tryz.prog 4 #[v, .string s] w fun e w' => e = .returned (.bool true) ∧ Below w.heap.size w w' := by
  have HMo : Hid (Calls Tryz.prog 8 #[v] w fun e w' => ∃ mo u, e = .returned u ∧ MoIs (fun b => b < w'.heap.size) w' mo u ∧ (moFault mo = 0 ∧ mo.uses.length + mo.types.length + mo.funcs.length ≤ 9) ∧ Below w.heap.size w w') :=
    module_raw (fun b => b < w.heap.size) l v w (fun _ h => h) hv hnm
  have HShow : Hid (∀ (mo : Mo) (u : Value) (W : World), Below w.heap.size w W → MoIs (fun b => b < W.heap.size) W mo u → moFault mo = 0 → mo.uses.length + mo.types.length + mo.funcs.length < 4611686018427387904 → Calls Tryz.prog 9 #[u] W fun e w' => e = .returned (.tuple #[.string (moText mo), .int .i64 0]) ∧ Below W.heap.size W w') := fun mo u W hW hm hf hc => by
    have hk := htab.keep hW
    have hk2 : TabIn W.heap.size W := by
      obtain ⟨g, h1, h2, h3⟩ := hk
      exact ⟨g, h1, Nat.lt_of_lt_of_le h2 hW.size, h3⟩
    have := treeShow_any (fun b => b < W.heap.size) mo u W (fun _ h => h) hm hk2 hc
    rw [hf] at this
    exact this
  have HRead : Hid (∀ (t : ByteArray) (W : World), Calls Tryz.prog 5 #[.string t] W fun e w' => Below W.heap.size W w' ∧ ∃ v, e = .returned (.tuple #[v, .int .i64 (readErr t)]) ∧ MoIs (Fresh W.heap.size w') w' (readMo t) v) := read_all
  obtain ⟨va, vn, vc, rfl⟩ := hv.slice
  clear hv hnm htab
  go_enter Tryz.func4, Tryz.ntmps4
  go_wp2_with fail
  refine HMo.out.mono ?_
  rintro e w1 ⟨mo, u, rfl, hmo, ⟨hf, hlen⟩, hb1⟩
  obtain ⟨a1, c1, a2, c2, a3, c3, rfl⟩ := mo_slices hmo
  obtain ⟨w2, hwe2, hs2, x0, x1, x2, hb2⟩ := box_mo w1 (.slice a1 mo.uses.length c1) (.slice a2 mo.types.length c2) (.slice a3 mo.funcs.length c3)
  have HB2 := veil (hb1.trans (hb2.mono hb1.size))
  have HS2 := veil (HShow.out mo _ w2 HB2.out (hmo.keep ⟨fun b hb => hb2.block b hb, fun _ hb => Nat.lt_of_lt_of_le hb hb2.size⟩) hf (by omega))
  have HBack := veil (text_back hf)
  have HNe := veil (fun h => text_ne (m := mo) hf h)
  have HWe2 := veil hwe2
  clear hmo hb1 hb2 hf hwe2 HMo
  generalize moText mo = tx at *
  generalize mo.uses.length = n1 at *
  generalize mo.types.length = n2 at *
  generalize mo.funcs.length = n3 at *
  go_wp2_with fail
  rw [HWe2.out]
  clear HWe2
  refine HS2.out.mono ?_
  rintro e w3 ⟨rfl, hb3⟩
  have hsz3 := hb3.size
  have y0 := (hb3.cell (p := ⟨w1.heap.size, 0, none⟩) (by show w1.heap.size < _; omega)).trans x0
  have y1 := (hb3.cell (p := ⟨w1.heap.size, 1, none⟩) (by show w1.heap.size < _; omega)).trans x1
  have y2 := (hb3.cell (p := ⟨w1.heap.size, 2, none⟩) (by show w1.heap.size < _; omega)).trans x2
  have HB3 := veil (HB2.out.trans (hb3.mono HB2.out.size))
  clear hb3 HS2 x0 x1 x2
  have hsum : wrap64 (wrap64 ((n1 : Int) + n2) + n3) = ((n1 + n2 + n3 : Nat) : Int) := by unfold wrap64; omega
  cases hE : tx.toList.isEmpty with
  | false =>
    clear HNe
    go_wp2_with fail
    clear y0 y1 y2
    refine (HRead.out tx w3).mono ?_
    rintro e w4 ⟨hb4, v4, rfl, hm4⟩
    obtain ⟨p4, q4, r4, s4, t4, u4, rfl⟩ := mo_slices hm4
    obtain ⟨w5, hwe5, hs5, x40, x41, x42, hb5⟩ := box_mo w4 (.slice p4 (readMo tx).uses.length q4) (.slice r4 (readMo tx).types.length s4) (.slice t4 (readMo tx).funcs.length u4)
    have HB5 := veil ((HB3.out.trans (hb4.mono HB3.out.size)).trans (hb5.mono (Nat.le_trans HB3.out.size hb4.size)))
    have HS5 := veil (HShow.out (readMo tx) _ w5 HB5.out (mo_now hm4 hb5) (read_good tx) (readMo_len tx))
    have HWe5 := veil hwe5
    clear hm4 hb4 hb5 hwe5
    generalize (readMo tx).uses.length = i4 at *
    generalize (readMo tx).types.length = j4 at *
    generalize (readMo tx).funcs.length = l4 at *
    have HT := veil HBack.out
    go_wp2_with fail
    rw [HWe5.out]
    clear HWe5
    refine HS5.out.mono ?_
    rintro e w6 ⟨rfl, hb6⟩
    have HB6 := veil (HB5.out.trans (hb6.mono HB5.out.size))
    clear hb6 HS5
    rcases HT.out with he | ⟨he, hu⟩
    · rw [he]
      clear HT HBack x40 x41 x42
      go_wp2_with fail
      go_ret
      exact ⟨by simp, HB6.out⟩
    · rw [he, hu]
      clear HT HBack he hu x40 x41 x42
      go_wp2_with fail
      refine (HRead.out s w6).mono ?_
      rintro e w7 ⟨hb7, v7, rfl, hm7⟩
      obtain ⟨p7, q7, r7, s7, t7, u7, rfl⟩ := mo_slices hm7
      obtain ⟨w8, hwe8, hs8, x70, x71, x72, hb8⟩ := box_mo w7 (.slice p7 (readMo s).uses.length q7) (.slice r7 (readMo s).types.length s7) (.slice t7 (readMo s).funcs.length u7)
      have HB8 := veil ((HB6.out.trans (hb7.mono HB6.out.size)).trans (hb8.mono (Nat.le_trans HB6.out.size hb7.size)))
      have HS8 := veil (HShow.out (readMo s) _ w8 HB8.out (mo_now hm7 hb8) (read_good s) (readMo_len s))
      have HWe8 := veil hwe8
      clear hm7 hb7 hb8 hwe8
      generalize (readMo s).uses.length = i7 at *
      generalize (readMo s).types.length = j7 at *
      generalize (readMo s).funcs.length = l7 at *
      by_cases hsz : readErr s = 0
      · have HBack2 := veil (text_back (read_good s))
        rw [hsz]
        clear hsz
        generalize moText (readMo s) = ty at *
        go_wp2_with fail
        rw [HWe8.out]
        clear HWe8
        refine HS8.out.mono ?_
        rintro e w9 ⟨rfl, hb9⟩
        have HB9 := veil (HB8.out.trans (hb9.mono HB8.out.size))
        clear hb9 HS8
        clear x70 x71 x72
        go_wp2_with fail
        refine (HRead.out ty w9).mono ?_
        rintro e w10 ⟨hb10, v10, rfl, hm10⟩
        obtain ⟨p10, q10, r10, s10, t10, u10, rfl⟩ := mo_slices hm10
        obtain ⟨w11, hwe11, hs11, x100, x101, x102, hb11⟩ := box_mo w10 (.slice p10 (readMo ty).uses.length q10) (.slice r10 (readMo ty).types.length s10) (.slice t10 (readMo ty).funcs.length u10)
        have HB11 := veil ((HB9.out.trans (hb10.mono HB9.out.size)).trans (hb11.mono (Nat.le_trans HB9.out.size hb10.size)))
        have HS11 := veil (HShow.out (readMo ty) _ w11 HB11.out (mo_now hm10 hb11) (read_good ty) (readMo_len ty))
        have HWe11 := veil hwe11
        clear hm10 hb10 hb11 hwe11
        generalize (readMo ty).uses.length = i10 at *
        generalize (readMo ty).types.length = j10 at *
        generalize (readMo ty).funcs.length = l10 at *
        rcases HBack2.out with hj | ⟨hj, hw⟩
        · rw [hj]
          clear hj HBack2
          go_wp2_with fail
          rw [HWe11.out]
          clear HWe11
          refine HS11.out.mono ?_
          rintro e w12 ⟨rfl, hb12⟩
          have HB12 := veil (HB11.out.trans (hb12.mono HB11.out.size))
          clear hb12 HS11
          clear x100 x101 x102
          go_wp2_with fail
          go_ret
          exact ⟨by simp, HB12.out⟩
        · rw [hw] at HS11
          rw [hj]
          clear hj hw HBack2
          go_wp2_with fail
          rw [HWe11.out]
          clear HWe11
          refine HS11.out.mono ?_
          rintro e w12 ⟨rfl, hb12⟩
          have HB12 := veil (HB11.out.trans (hb12.mono HB11.out.size))
          clear hb12 HS11
          clear x100 x101 x102
          go_wp2_with fail
          go_ret
          exact ⟨by simp, HB12.out⟩
      · have hsz' : (readErr s == 0) = false := by simpa using hsz
        clear hsz HS8 x70 x71 x72
        generalize readErr s = er at *
        go_wp2_with fail
        rw [HWe8.out]
        go_ret
        exact ⟨by simp, HB8.out⟩
  | true =>
    have hpos : ¬ 0 < n1 + n2 + n3 := fun h => HNe.out h (by simpa using hE)
    have hpos' : ¬ (0 : Int) < ((n1 + n2 + n3 : Nat) : Int) := by omega
    clear HNe hpos
    go_wp2_with fail
    clear y0 y1 y2
    refine (HRead.out tx w3).mono ?_
    rintro e w4 ⟨hb4, v4, rfl, hm4⟩
    obtain ⟨p4, q4, r4, s4, t4, u4, rfl⟩ := mo_slices hm4
    obtain ⟨w5, hwe5, hs5, x40, x41, x42, hb5⟩ := box_mo w4 (.slice p4 (readMo tx).uses.length q4) (.slice r4 (readMo tx).types.length s4) (.slice t4 (readMo tx).funcs.length u4)
    have HB5 := veil ((HB3.out.trans (hb4.mono HB3.out.size)).trans (hb5.mono (Nat.le_trans HB3.out.size hb4.size)))
    have HS5 := veil (HShow.out (readMo tx) _ w5 HB5.out (mo_now hm4 hb5) (read_good tx) (readMo_len tx))
    have HWe5 := veil hwe5
    clear hm4 hb4 hb5 hwe5
    generalize (readMo tx).uses.length = i4 at *
    generalize (readMo tx).types.length = j4 at *
    generalize (readMo tx).funcs.length = l4 at *
    have HT := veil HBack.out
    go_wp2_with fail
    rw [HWe5.out]
    clear HWe5
    refine HS5.out.mono ?_
    rintro e w6 ⟨rfl, hb6⟩
    have HB6 := veil (HB5.out.trans (hb6.mono HB5.out.size))
    clear hb6 HS5
    rcases HT.out with he | ⟨he, hu⟩
    · rw [he]
      clear HT HBack x40 x41 x42
      go_wp2_with fail
      go_ret
      exact ⟨by simp, HB6.out⟩
    · rw [he, hu]
      clear HT HBack he hu x40 x41 x42
      go_wp2_with fail
      refine (HRead.out s w6).mono ?_
      rintro e w7 ⟨hb7, v7, rfl, hm7⟩
      obtain ⟨p7, q7, r7, s7, t7, u7, rfl⟩ := mo_slices hm7
      obtain ⟨w8, hwe8, hs8, x70, x71, x72, hb8⟩ := box_mo w7 (.slice p7 (readMo s).uses.length q7) (.slice r7 (readMo s).types.length s7) (.slice t7 (readMo s).funcs.length u7)
      have HB8 := veil ((HB6.out.trans (hb7.mono HB6.out.size)).trans (hb8.mono (Nat.le_trans HB6.out.size hb7.size)))
      have HS8 := veil (HShow.out (readMo s) _ w8 HB8.out (mo_now hm7 hb8) (read_good s) (readMo_len s))
      have HWe8 := veil hwe8
      clear hm7 hb7 hb8 hwe8
      generalize (readMo s).uses.length = i7 at *
      generalize (readMo s).types.length = j7 at *
      generalize (readMo s).funcs.length = l7 at *
      by_cases hsz : readErr s = 0
      · have HBack2 := veil (text_back (read_good s))
        rw [hsz]
        clear hsz
        generalize moText (readMo s) = ty at *
        go_wp2_with fail
        rw [HWe8.out]
        clear HWe8
        refine HS8.out.mono ?_
        rintro e w9 ⟨rfl, hb9⟩
        have HB9 := veil (HB8.out.trans (hb9.mono HB8.out.size))
        clear hb9 HS8
        clear x70 x71 x72
        go_wp2_with fail
        refine (HRead.out ty w9).mono ?_
        rintro e w10 ⟨hb10, v10, rfl, hm10⟩
        obtain ⟨p10, q10, r10, s10, t10, u10, rfl⟩ := mo_slices hm10
        obtain ⟨w11, hwe11, hs11, x100, x101, x102, hb11⟩ := box_mo w10 (.slice p10 (readMo ty).uses.length q10) (.slice r10 (readMo ty).types.length s10) (.slice t10 (readMo ty).funcs.length u10)
        have HB11 := veil ((HB9.out.trans (hb10.mono HB9.out.size)).trans (hb11.mono (Nat.le_trans HB9.out.size hb10.size)))
        have HS11 := veil (HShow.out (readMo ty) _ w11 HB11.out (mo_now hm10 hb11) (read_good ty) (readMo_len ty))
        have HWe11 := veil hwe11
        clear hm10 hb10 hb11 hwe11
        generalize (readMo ty).uses.length = i10 at *
        generalize (readMo ty).types.length = j10 at *
        generalize (readMo ty).funcs.length = l10 at *
        rcases HBack2.out with hj | ⟨hj, hw⟩
        · rw [hj]
          clear hj HBack2
          go_wp2_with fail
          rw [HWe11.out]
          clear HWe11
          refine HS11.out.mono ?_
          rintro e w12 ⟨rfl, hb12⟩
          have HB12 := veil (HB11.out.trans (hb12.mono HB11.out.size))
          clear hb12 HS11
          clear x100 x101 x102
          go_wp2_with fail
          go_ret
          exact ⟨by simp, HB12.out⟩
        · rw [hw] at HS11
          rw [hj]
          clear hj hw HBack2
          go_wp2_with fail
          rw [HWe11.out]
          clear HWe11
          refine HS11.out.mono ?_
          rintro e w12 ⟨rfl, hb12⟩
          have HB12 := veil (HB11.out.trans (hb12.mono HB11.out.size))
          clear hb12 HS11
          clear x100 x101 x102
          go_wp2_with fail
          go_ret
          exact ⟨by simp, HB12.out⟩
      · have hsz' : (readErr s == 0) = false := by simpa using hsz
        clear hsz HS8 x70 x71 x72
        generalize readErr s = er at *
        go_wp2_with fail
        rw [HWe8.out]
        go_ret
        exact ⟨by simp, HB8.out⟩

/-! ### What the condition on the listed variables gives -/

abbrev laidRows : List (String × DataW Unit) := Rows.treesBackRow.laid

theorem gPow : Tryz.prog.globalNamed "internal/strconv.uint64pow10" = some 4 := by kernel_rfl
theorem tPow : (Tryz.prog.globals[4]?).map (·.type) = some 174 := by kernel_rfl
theorem cellsU64 : Tryz.prog.cellsOf 165 = 1 := by kernel_rfl
theorem cellsTab : Tryz.prog.cellsOf 174 = 20 := by kernel_rfl
theorem gNames : Tryz.prog.globalNamed "scullery/scullerykeep.names" = some 0 := by kernel_rfl
theorem tNames : (Tryz.prog.globals[0]?).map (·.type) = some 102 := by kernel_rfl
theorem cellsNames : Tryz.prog.cellsOf 102 = 6 := by kernel_rfl
theorem cellsStr1 : Tryz.prog.cellsOf 9 = 1 := by kernel_rfl

theorem laid_plain {W : World} (h : laidMetH Tryz.prog laidRows W) : laidMet Tryz.prog laidRows W := by
  rw [MakeChecks.laidMetH_plain _ _ _ (by kernel_rfl)] at h
  exact h

theorem tab_of_laid {W : World} (h : laidMet Tryz.prog laidRows W) : TabIn W.heap.size W := by
  have h' := laidMet.tail (laidMet.tail h)
  have ht := Lib.tabIs_of_head (k := .u64) (zs := Lib.pow10Tab) gPow tPow Tryz.underlying174 Tryz.underlying165 cellsU64 cellsTab h'
  refine ⟨_, gPow, ?_, ht⟩
  have := ht.cell gPow 0 (by rw [Lib.pow10Tab_length]; omega)
  exact World.block_lt_of_cell? W _ this

def nameAt (j : Nat) : ByteArray := ([⟨#[97]⟩, ⟨#[98]⟩, ⟨#[98, 111, 120]⟩, ⟨#[100]⟩, ⟨#[101, 50]⟩, ⟨#[102, 117, 110]⟩] : List ByteArray).getD j ⟨#[97]⟩
theorem nameAt_ok (j : Nat) (hj : j < 6) : identOk (nameAt j) = true ∧ (nameAt j).size ≤ 8 := by
  have : j = 0 ∨ j = 1 ∨ j = 2 ∨ j = 3 ∨ j = 4 ∨ j = 5 := by omega
  rcases this with rfl | rfl | rfl | rfl | rfl | rfl <;> exact ⟨by decide +kernel, by decide +kernel⟩

theorem names_of_laid {W : World} (h : laidMet Tryz.prog laidRows W) : NamesIn W := by
  have h' := laidMet.tail (laidMet.tail (laidMet.tail (laidMet.tail (laidMet.tail (laidMet.tail h)))))
  obtain ⟨ps, ⟨g', t', cs, fuel, p, q, hg', ht', hvar, hd, _, _⟩, _⟩ := h'
  obtain rfl := Option.some.inj (gNames.symm.trans hg')
  obtain rfl := Option.some.inj (tNames.symm.trans ht')
  obtain ⟨xs, m, _, hx, hcl, hxl, hel⟩ := DataW.trod_array Tryz.underlying102 hd
  rw [cellsNames] at hcl
  have hxs : xs.map (·.1) = [.lit (.string [97]), .lit (.string [98]), .lit (.string [98, 111, 120]), .lit (.string [100]), .lit (.string [101, 50]), .lit (.string [102, 117, 110])] := by
    have := congrArg Prod.fst hx
    injection this with this
    exact this.symm
  have each : ∀ j, j < 6 → W.cell? ⟨0, j, none⟩ = some (.string (nameAt j)) := fun j hj => by
    have he := hel j hj
    rw [cellsStr1, Nat.mul_one, List.getElem?_eq_getElem (by omega)] at he
    obtain ⟨s, hcs, hlit, _⟩ := DataW.trod_string Tryz.underlying9 he
    have h1 : cs[j]? = some (.string s) := by
      have := congrArg (·[0]?) hcs
      simpa [List.getElem?_take, List.getElem?_drop] using this
    have h2 : (xs.map (·.1))[j]? = some (.lit (.string s.data.toList)) := by
      rw [List.getElem?_map, List.getElem?_eq_getElem (by omega)]
      have := congrArg Prod.fst hlit
      simpa using this
    rw [hxs] at h2
    have hs : s = nameAt j := by
      have hj' : j = 0 ∨ j = 1 ∨ j = 2 ∨ j = 3 ∨ j = 4 ∨ j = 5 := by omega
      apply Go.WideShapes.bytes_inj
      rcases hj' with rfl | rfl | rfl | rfl | rfl | rfl <;> (simp at h2; rw [← h2]; rfl)
    rw [World.var?_cell gNames hvar j, ← hs]
    simpa using h1
  refine ⟨World.block_lt_of_cell? W _ (each 0 (by omega)), fun j hj => ⟨nameAt j, each j hj, nameAt_ok j hj⟩⟩

/-! ### A readable list of raw things is a plain one -/

theorem cellsRw : Tryz.prog.cellsOf 58 = 4 := by kernel_rfl
theorem cellsI1 : Tryz.prog.cellsOf 3 = 1 := by kernel_rfl

set_option maxRecDepth 100000 in
theorem rw_read {H : Type} {enc : TypeId × Value → H} {W : World} {base : Nat} {spare : Nat → Bool} {held : Bool} (fuel : Nat) (cs : List Value) (x : DataW H × List MemPlace) (h : DataW.trod enc Tryz.prog W base spare held fuel 58 cs = some x) :
    ∃ r : Rw, cs = [.int .i64 r.kind, .int .i64 r.a, .int .i64 r.b, .int .i64 r.c] ∧ wfI r.kind ∧ wfI r.a ∧ wfI r.b ∧ wfI r.c := by
  obtain ⟨ys, n, _, _, hlen, hyl0, hf⟩ := DataW.trod_struct Tryz.underlying58 h
  rw [cellsRw] at hlen
  match cs, hlen with
  | [v0, v1, v2, v3], _ =>
    have g0 : DataW.trod enc Tryz.prog W base spare held n 3 (([v0, v1, v2, v3].drop 0).take (Tryz.prog.cellsOf 3)) = ys[0]? := hf 0 _ rfl
    have g1 : DataW.trod enc Tryz.prog W base spare held n 3 (([v0, v1, v2, v3].drop 1).take (Tryz.prog.cellsOf 3)) = ys[1]? := hf 1 _ rfl
    have g2 : DataW.trod enc Tryz.prog W base spare held n 3 (([v0, v1, v2, v3].drop 2).take (Tryz.prog.cellsOf 3)) = ys[2]? := hf 2 _ rfl
    have g3 : DataW.trod enc Tryz.prog W base spare held n 3 (([v0, v1, v2, v3].drop 3).take (Tryz.prog.cellsOf 3)) = ys[3]? := hf 3 _ rfl
    rw [cellsI1] at g0 g1 g2 g3
    have hyl : ys.length = 4 := hyl0
    obtain ⟨y0, e0⟩ : ∃ y, ys[0]? = some y := ⟨_, List.getElem?_eq_getElem (by omega)⟩
    obtain ⟨y1, e1⟩ : ∃ y, ys[1]? = some y := ⟨_, List.getElem?_eq_getElem (by omega)⟩
    obtain ⟨y2, e2⟩ : ∃ y, ys[2]? = some y := ⟨_, List.getElem?_eq_getElem (by omega)⟩
    obtain ⟨y3, e3⟩ : ∃ y, ys[3]? = some y := ⟨_, List.getElem?_eq_getElem (by omega)⟩
    obtain ⟨a, ha, _, fa⟩ := DataW.trod_int Tryz.underlying3 (g0.trans e0)
    obtain ⟨b, hb, _, fb⟩ := DataW.trod_int Tryz.underlying3 (g1.trans e1)
    obtain ⟨c, hc, _, fc⟩ := DataW.trod_int Tryz.underlying3 (g2.trans e2)
    obtain ⟨d, hd, _, fd⟩ := DataW.trod_int Tryz.underlying3 (g3.trans e3)
    simp at ha hb hc hd
    subst ha hb hc hd
    exact ⟨⟨a, b, c, d⟩, rfl, fa, fb, fc, fd⟩

/-! ### The row, and the card -/

theorem laid_met (os : Os) (args : Array Value) : laidMetH Tryz.prog laidRows ((World.laidAll Tryz.prog os laidRows).forCall (fun _ _ => 0) ⟨#[], args, []⟩).memory := by
  rw [MakeChecks.laidMetH_plain _ _ _ (by kernel_rfl)]
  exact laidMet_laidAll _ (by kernel_rfl) (by kernel_rfl)

set_option maxRecDepth 100000 in
theorem lifted (os : Os) (started : os.Started) (H : Type) (enc : TypeId × Value → H) :
    ReturnsInHanded {} Tryz.checked os 4 .any (fun w args => (Rows.treesBackSpec.pre enc Tryz.prog Tryz.f4 [] false w args ∧ laidMetH Tryz.prog laidRows w) ∧ sizedMet enc Tryz.prog Tryz.f4 (OpenSpec.ofChange Rows.treesBackSpec) false w args)
      (Rows.treesBackSpec.post enc Tryz.prog Tryz.f4 false true false false) := by
  refine returnsInHanded_of_change_and (C := Tryz.checked) (X := fun w _ => laidMetH Tryz.prog laidRows w) (fun _ _ _ hh h => h.of_heap hh) own started (by kernel_rfl) Tryz.func4
    (ChangeSpec.witness_shaped (enc := enc) (C := Tryz.checked) (os := os) (X := fun w _ => laidMetH Tryz.prog laidRows w) false (World.laidAll Tryz.prog os laidRows) #[.slice none 0 0, .string ByteArray.empty] 8 rfl (World.shaped_of_ZipB (by kernel_rfl) (by kernel_rfl)) (by kernel_rfl) (by kernel_rfl) (by kernel_rfl) (laid_met os _)) ?_
  intro W base args ds gs before hval0 hW _ hsz hL _
  have hval : ∀ (j : Nat) t v, Tryz.f4.params[j]? = some t → args[j]? = some v → Value.okWide Tryz.prog W .any base t v := hval0
  have hW' := hW
  obtain ⟨p, q, hA0, hV, rfl, hfz, hnd⟩ := hW
  have hA : DataW.TrodAll enc Tryz.prog W 0 (fun _ => true) true Tryz.f4.params.toList args.toList ds p := hA0
  rw [Tryz.params4] at hA hval
  obtain ⟨v0, vs0, d0, ds0, p0, q0, hargs, rfl, rfl, h0, r0⟩ := trodAll_cons hA
  obtain ⟨v1, vs1, d1, ds1, p1, q1, hargs1, rfl, rfl, h1, r1⟩ := trodAll_cons r0
  obtain ⟨rfl, rfl, rfl⟩ := trodAll_nil r1
  obtain rfl : args = #[v0, v1] := by cases args; simp_all
  obtain ⟨rfl, rfl⟩ := trodVars_none hV
  obtain ⟨a0, len0, cap0, rfl⟩ := okWide_slice Tryz.underlying32 (hval 0 32 v0 rfl rfl)
  obtain ⟨a1, rfl, rfl, rfl, w1⟩ := open_string Tryz.underlying9 (hval 1 9 v1 rfl rfl) h1
  have k0 := h0
  have lt0 : ∀ x ∈ p0, x.block < W.heap.size := by obtain ⟨m, hm⟩ := k0; exact DataW.trod_lt m _ _ _ hm
  obtain ⟨l0, w0⟩ : ∃ l, SlAt (fun b => b < W.heap.size) (RwAt W) 4 l (.slice a0 len0 cap0) := by
    obtain ⟨fuel, hf⟩ := h0
    obtain ⟨v, l, hv, hl⟩ := sl_read (P := RwAt W) Tryz.underlying32 cellsRw (by omega) hf (fun m' cs' x' b o _ hx' _ hl' => by
      obtain ⟨r, rfl, f0, f1, f2, f3⟩ := rw_read m' cs' x' hx'
      exact ⟨r, ⟨hl'.2 0 (by simp), hl'.2 1 (by simp), hl'.2 2 (by simp), hl'.2 3 (by simp)⟩, f0, f1, f2, f3⟩)
    have e : Value.slice a0 len0 cap0 = v := by simpa [Value.cells] using hv
    exact ⟨l, by rw [e]; exact hl⟩
  have hP := laid_plain hL
  clear hA0 hval0 hsz hL
  simp only [List.append_nil] at hW'
  refine (walk _ l0 a1 W w0 (names_of_laid hP) (tab_of_laid hP)).mono fun e W' ⟨he, bel⟩ => ?_
  subst he
  exact ⟨_, rfl, _, _, _, [], _, [], hW', trodAll_mk1 (shut_bool Tryz.underlying4 _), (trodAll_cons_mk (Below.trod laidOut (by kernel_rfl) (of_decide_eq_true (by kernel_rfl)) k0 bel lt0) (trodAll_cons_mk (shut_string Tryz.underlying9 w1) trodAll_mk0)), rfl, bel.frame _, fun h => by cases h⟩

theorem over : Rows.TreesBackSaid :=
  OpenClaim.holds_of_wide 4 Tryz.f4 rfl rfl rfl rfl rfl rfl rfl ⟨rfl, rfl, rfl, rfl, rfl⟩ rfl rfl rfl rfl rfl (by kernel_rfl) Tryz.func4 (by kernel_rfl)
    (of_decide_eq_true (by kernel_rfl)) (by unfold Func.isWrapper; first | (rw [if_pos (by decide +kernel)]; kernel_rfl) | (rw [if_neg (by decide +kernel)]; exact ⟨rfl, rfl⟩))
    (fun os started H enc _ => lifted os started H enc)

theorem proved : Rows.TreesBackCardSaid :=
  Claim7.holds_tied_plain_at .later [] [.data, .data, .data, .data, .sentinel, .sentinel, .data, .pinned] true (true, "82e91238c515189ecd4931e99543513ab3ce080ed6a736506114f6ab961845af") true
    over (fun _ h => by cases h) (by kernel_rfl) (fun _ h => by cases h) treesBack_row_tie rfl ⟨rfl, rfl⟩ (by kernel_rfl) rfl
    (fun f fn hf hfn => by
      obtain rfl : f = 4 := Option.some.inj ((show Tryz.prog.funcNamed "scullery/scullerykeep.TreesBack" = some 4 by kernel_rfl).symm.trans hf) |>.symm
      obtain rfl : fn = Tryz.f4 := (Option.some.inj (Tryz.func4.symm.trans hfn)).symm
      exact ⟨by kernel_rfl, fun j t ht => by
        rw [Tryz.params4] at ht
        have hm : t ∈ [32, 9] := by simpa using Array.mem_of_getElem? ht
        have hall : ([32, 9].all fun u => !Tryz.prog.wantsStandIn u) = true := by kernel_rfl
        exact (show Tryz.prog.wantsStandIn t = false by simpa using List.all_eq_true.1 hall t hm)⟩)
    (by kernel_rfl)
#print axioms proved
end Go.Proofs.YtieoddnaknpmlabGreatDoor.treesBack
