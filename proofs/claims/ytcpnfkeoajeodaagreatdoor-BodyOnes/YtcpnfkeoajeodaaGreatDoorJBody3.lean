/- What the reference's isOf answers at a sum, a list's items, a place in a list. -/
import Derived.Test.YtcpnfkeoajeodaaGreatDoorJBody2
import Derived.Test.YtcpnfkeoajeodaaGreatDoorJAlias24
namespace Go.Proofs.YtcpnfkeoajeodaaGreatDoor
open Go.RowKit
set_option maxRecDepth 100000

theorem int_list : intK.toList = [105, 110, 116] := by simp [intK, ByteArray.toList, ByteArray.toList.loop, ByteArray.size, ByteArray.get!]
theorem text_list : textK.toList = [116, 101, 120, 116] := by simp [textK, ByteArray.toList, ByteArray.toList.loop, ByteArray.size, ByteArray.get!]

set_option maxRecDepth 100000 in
set_option maxHeartbeats 8000000 in
theorem isOf_rest (S : Nat → Prop) (ps : List Kn) (fc : ByteArray → Fc) (vm vl vo vp : Value) (w W : World) (hS : ∀ b, S b → b < w.heap.size) (hW : Below w.heap.size w W) (hvm : ∃ a b c d e f g h i, vm = .agg #[.slice a b c, .slice d e f, .slice g h i]) (hvl : ∃ a b c, vl = .slice a b c) (hvo : ∃ a b c d e f, vo = .agg #[.slice a b c, .slice d e f]) (hvp : ∃ a b c, vp = .slice a b c) (d : Nat)
    (hIH : ∀ (x : Ex) (v : Value) (W : World), Below w.heap.size w W → exFault x (d + 1) = 0 → ExIs S w x v → Calls Tryz.prog 18 #[vm, vl, vo, vp, v] W (IsAns ps fc x W))
    (k num : Int) (o s : ByteArray) (xs : List Ex) (xv : Value) (hx : exFault (.mk k num o s xs) d = 0) (hk : 5 ≤ k) (hsl : SlAt S (ExAt S w) 5 xs xv) (hSz : ∀ x, (exIs ps fc x).1.size ≤ maxLen) :
    Calls Tryz.prog 18 #[vm, vl, vo, vp, .agg #[.int .i64 k, .int .i64 num, .string o, .string s, xv]] W (IsAns ps fc (.mk k num o s xs) W) := by
  obtain ⟨u1, u2, u3, t1, t2, t3, f1, f2, f3, rfl⟩ := hvm
  obtain ⟨la, ln, lc, rfl⟩ := hvl
  obtain ⟨o1, o2, o3, o4, o5, o6, rfl⟩ := hvo
  obtain ⟨p1, p2, p3, rfl⟩ := hvp
  obtain ⟨_, hk7, h8, _, hcf, hxs⟩ := ex_parts hx
  have HSL := veil hsl
  obtain ⟨xa, xc, rfl⟩ := hsl.is
  have HE : Hid (exIs ps fc (.mk k num o s xs) = endIs k noSg (exsIs ps fc xs)) := by show _ = _; rw [exIs, if_neg (by omega), if_neg (by omega), if_neg (by omega), if_neg (by omega)]
  have k1 : (k == 1) = false := by simp; omega
  have k2 : (k == 2) = false := by simp; omega
  have k3 : (k == 3) = false := by simp; omega
  have k4 : (k == 4) = false := by simp; omega
  have HIH := veil hIH
  have HXs := veil (exsFault_mem hxs)
  have HK7 := veil hk7
  have HCf := veil hcf
  unfold IsAns
  rw [HE.out]
  clear hsl hIH hxs hx hk7 hcf HE
  obtain ⟨W4, hwe, hs4, hA, b0, b1, b2, b3, b4, b5, b6⟩ : ∃ W4, ((((W.alloc (.cells #[.slice u1 u2 u3, .slice t1 t2 t3, .slice f1 f2 f3] 26)).alloc (.cells #[.slice o1 o2 o3, .slice o4 o5 o6] 31)).alloc (.cells #[.int .i64 k, .int .i64 num, .string o, .string s, .slice xa xs.length xc] 52)).alloc (.cells #[.string ⟨#[]⟩, .slice none 0 0, .string ⟨#[]⟩] 44)) = W4 ∧ W4.heap.size = W.heap.size + 4 ∧ Below W.heap.size W W4 ∧
      W4.cell? ⟨W.heap.size, 0, none⟩ = some (.slice u1 u2 u3) ∧ W4.cell? ⟨W.heap.size, 1, none⟩ = some (.slice t1 t2 t3) ∧ W4.cell? ⟨W.heap.size, 2, none⟩ = some (.slice f1 f2 f3) ∧ W4.cell? ⟨W.heap.size + 1, 0, none⟩ = some (.slice o1 o2 o3) ∧ W4.cell? ⟨W.heap.size + 1, 1, none⟩ = some (.slice o4 o5 o6) ∧ W4.cell? ⟨W.heap.size + 2, 0, none⟩ = some (.int .i64 k) ∧ W4.cell? ⟨W.heap.size + 2, 4, none⟩ = some (.slice xa xs.length xc) :=
    ⟨_, rfl, by simp, ((((Below.refl _ _).alloc (Nat.le_refl _) _).alloc (by simp) _).alloc (by simp; omega) _).alloc (by simp; omega) _, by simp [go_sem], by simp [go_sem], by simp [go_sem], by simp [go_sem], by simp [go_sem], by simp [go_sem], by simp [go_sem]⟩
  have HWe := veil hwe
  have HBox : Hid (∀ W', Below W4.heap.size W4 W' → (W'.cell? ⟨W.heap.size, 0, none⟩ = some (.slice u1 u2 u3) ∧ W'.cell? ⟨W.heap.size, 1, none⟩ = some (.slice t1 t2 t3) ∧ W'.cell? ⟨W.heap.size, 2, none⟩ = some (.slice f1 f2 f3) ∧ W'.cell? ⟨W.heap.size + 1, 0, none⟩ = some (.slice o1 o2 o3) ∧ W'.cell? ⟨W.heap.size + 1, 1, none⟩ = some (.slice o4 o5 o6) ∧ W'.cell? ⟨W.heap.size + 2, 0, none⟩ = some (.int .i64 k) ∧ W'.cell? ⟨W.heap.size + 2, 4, none⟩ = some (.slice xa xs.length xc)) ∧ Below W.heap.size W W') := fun W' h =>
    ⟨⟨(h.cell (p := ⟨W.heap.size, 0, none⟩) (by show W.heap.size < _; omega)).trans b0, (h.cell (p := ⟨W.heap.size, 1, none⟩) (by show W.heap.size < _; omega)).trans b1, (h.cell (p := ⟨W.heap.size, 2, none⟩) (by show W.heap.size < _; omega)).trans b2, (h.cell (p := ⟨W.heap.size + 1, 0, none⟩) (by show W.heap.size + 1 < _; omega)).trans b3, (h.cell (p := ⟨W.heap.size + 1, 1, none⟩) (by show W.heap.size + 1 < _; omega)).trans b4, (h.cell (p := ⟨W.heap.size + 2, 0, none⟩) (by show W.heap.size + 2 < _; omega)).trans b5, (h.cell (p := ⟨W.heap.size + 2, 4, none⟩) (by show W.heap.size + 2 < _; omega)).trans b6⟩, hA.trans (h.mono hA.size)⟩
  have hs4' : W.heap.size + 4 ≤ W4.heap.size := by omega
  have HwW := veil hW
  have hwW := hW.size
  obtain ⟨i0, hi, hz0, hz1, hz2⟩ := info_parts str_info
  clear hwe hs4 hA b0 b1 b2 b3 b4 b5 b6 hW
  go_enter Tryz.func18, Tryz.ntmps18
  go_wp2_with fail
  rw [HWe.out]
  clear HWe
  go_loopw [17, 18] (fun v i wr => ∃ j : Nat, j ≤ xs.length ∧ i = .int .i64 j ∧ wr.ownsRow W4.heap.size 9 1 v j (strVals ((xs.take j).map (fun x => (exIs ps fc x).1))) ∧ (∀ q (_ : q < j) (hq : q < xs.length), (exIs ps fc xs[q]).2 = 0) ∧ Below W4.heap.size W4 wr) (fun _ i _ => xs.length - (intOf i).toNat)
  case atStart => exact ⟨0, Nat.zero_le _, rfl, World.ownsRow_nil _ _ _ _, (fun q h => by omega), Below.refl _ _⟩
  case round =>
    obtain ⟨j, hj, rfl, hown, hall, hb⟩ := hrel
    obtain ⟨⟨b0, b1, b2, b3, b4, b5, b6⟩, hbW⟩ := HBox.out wr hb
    have hbw := HwW.out.trans (hbW.mono hwW)
    have hsr := hb.size
    have HOwn := veil hown
    have HAll := veil hall
    have HB := veil hb
    clear hown hall hb
    by_cases hlt : j < xs.length
    · have hlt' : (j : Int) < (xs.length : Int) := by omega
      have hj0 : (0 : Int) ≤ (j : Int) := by omega
      obtain ⟨_, b, off, rfl, hbk, hat⟩ := HSL.out.at hlt
      obtain ⟨kd, nu, fo, na, va, c0, c1, c2, c3, c4, hcs⟩ := exAt_cells.1 hat
      obtain ⟨va1, va2, va3, rfl⟩ := hcs.slice
      have hbk' := hS b hbk
      have d0 := (hbw.cell (p := ⟨b, off + j * 5, none⟩) hbk').trans c0
      have d1 := (hbw.cell (p := ⟨b, off + j * 5 + 1, none⟩) hbk').trans c1
      have d2 := (hbw.cell (p := ⟨b, off + j * 5 + 2, none⟩) hbk').trans c2
      have d3 := (hbw.cell (p := ⟨b, off + j * 5 + 3, none⟩) hbk').trans c3
      have d4 := (hbw.cell (p := ⟨b, off + j * 5 + 4, none⟩) hbk').trans c4
      have HCall : Hid (∀ W, Below w.heap.size w W → Calls Tryz.prog 18 #[.agg #[.slice u1 u2 u3, .slice t1 t2 t3, .slice f1 f2 f3], .slice la ln lc, .agg #[.slice o1 o2 o3, .slice o4 o5 o6], .slice p1 p2 p3, .agg #[.int .i64 kd, .int .i64 nu, .string fo, .string na, .slice va1 va2 va3]] W (IsAns ps fc xs[j] W)) := fun W hW =>
        HIH.out xs[j] _ W hW (HXs.out _ (List.getElem_mem hlt)) ⟨_, _, _, _, _, rfl, hcs⟩
      have HBd := veil hbw.drew
      have HBad : Hid ((exIs ps fc xs[j]).2 ≠ 0 → endIs k noSg (exsIs ps fc xs) = badEx (exIs ps fc xs[j]).2) := fun h => endIs_bad hlt (fun q hq => HAll.out q hq (by omega)) h
      have HAll' : Hid ((exIs ps fc xs[j]).2 = 0 → ∀ q (_ : q < j + 1) (hq : q < xs.length), (exIs ps fc xs[q]).2 = 0) := fun h q hq hq' => by
        by_cases e : q = j
        · subst e; exact h
        · exact HAll.out q (by omega) hq'
      have HTake : Hid (strVals ((xs.take (j + 1)).map (fun x => (exIs ps fc x).1)) = strVals ((xs.take j).map (fun x => (exIs ps fc x).1)) ++ [.string (exIs ps fc xs[j]).1]) := by
        show _ = _
        rw [← List.take_append_getElem hlt, List.map_append]
        simp only [strVals, List.map_append, List.map_cons, List.map_nil]
      clear c0 c1 c2 c3 c4 hcs hat HSL HIH HXs HAll hbW
      unfold IsAns at HCall
      generalize exIs ps fc xs[j] = r at *
      obtain ⟨rs, rc⟩ := r
      generalize strVals ((xs.take j).map (fun x => (exIs ps fc x).1)) = vals at *
      go_wp2_with fail
      go_region_with (go_at_call 18; refine (HCall.out _ HBd.out).mono ?_; rintro e w6 ⟨rfl, hb6⟩)
      all_goals
        have hb56 : Below wr.heap.size wr w6 := (Below.refl _ _).drew.trans (hb6.mono (Nat.le_refl _))
        have HB6 := veil (HB.out.trans (hb56.mono hsr))
        have hown6 := ownsRow_later HOwn.out hb56
        have hs6 := HB6.out.size
        have HBW6 := veil (HBox.out w6 HB6.out).2
        clear hb56 hb6 b0 b1 b2 b3 b4 b5 b6 d0 d1 d2 d3 d4 HCall HBd HOwn HB
        by_cases hc : rc = 0
        · subst hc
          have HAll6 := veil (HAll'.out rfl)
          clear HBad HAll' HBox
          go_wp2_with (at_builtin; refine wpList_append_lies _ rfl _ _ 22 rfl W4.heap.size 9 i0 (.string ⟨#[]⟩) 1 16 Tryz.underlying22 hi hz0 hz1 hz2 rfl (by decide) _ _ _ rfl (hown6.alloc _) ⟨w6.heap.size, 0, none⟩ 1 1 [.string rs] rfl rfl (one_str _ _) (one_strs _) (by decide) (by unfold maxLen; omega) (by omega) (by simp; omega) (w6.heap.size + 1) (by simp) ?_)
          intro g7 cap7 w7 hown7 hgrow7 hat7 hlt7
          have hrow := ownsRow_at hown6
          have HB7 : Hid (Below W4.heap.size W4 w7) := (HB6.out.alloc (by omega) (.cells #[.string rs] 9)).grown hgrow7 (by simp; omega) (fun j hj => by have := hrow j hj; omega)
          have HOwn7 : Hid (w7.ownsRow W4.heap.size 9 1 (.slice (some ⟨g7, 0, none⟩) (j + 1) cap7) (j + 1) (strVals ((xs.take (j + 1)).map (fun x => (exIs ps fc x).1)))) := by
            show w7.ownsRow _ _ _ _ _ _
            rw [HTake.out]
            exact hown7
          clear hown7 hgrow7 hat7 hlt7 hrow hown6 HTake
          go_wp2_with fail
          exact ⟨⟨j + 1, by omega, by go_num, HOwn7.out, HAll6.out, HB7.out⟩, by simp [intOf]; omega⟩
        · have hc' : (rc != 0) = true := by simp [hc]
          have HBd := veil (HBad.out hc)
          clear HAll' HTake HBox hc HBad hown6
          go_wp2_with fail
          go_ret2
          exact ⟨by rw [HBd.out]; rfl, HBW6.out⟩
    · have hnl : ¬ (j : Int) < (xs.length : Int) := by omega
      have hje : j = xs.length := by omega
      subst hje
      have HFin : Hid (endIs k noSg (exsIs ps fc xs) = finIs k noSg (xs.map (fun x => (exIs ps fc x).1))) := endIs_good (fun q hq => HAll.out q hq hq)
      have htk : xs.take xs.length = xs := List.take_length
      rw [htk] at HOwn
      have hl : (xs.map (fun x => (exIs ps fc x).1)).length = xs.length := List.length_map ..
      have HIsz : Hid (∀ t ∈ xs.map (fun x => (exIs ps fc x).1), t.size ≤ maxLen) := fun t ht => by
        obtain ⟨z, _, rfl⟩ := List.mem_map.1 ht
        exact hSz z
      clear HIH HXs HAll HSL htk HBox
      generalize hT : xs.map (fun x => (exIs ps fc x).1) = is at *
      clear hT
      have hRow : SlAt (fun b => b < wr.heap.size) (StrAt wr) 1 is _ := ownsRow_strs (B := W4.heap.size) (by rw [hl]; exact HOwn.out) (by rw [hl]; unfold maxLen; omega) HIsz.out
      obtain ⟨ra, rcp, hv, _, hrow⟩ := hRow
      rw [hl] at hv
      subst hv
      have HDn : Hid (∀ n, Below W.heap.size W (wr.drewN n)) := fun n => below_drewN hbW n
      have HBW := veil hbW
      have hk567 : k = 5 ∨ k = 6 ∨ k = 7 := by
        have := HK7.out
        simp [isIn] at this
        omega
      clear HB HOwn HK7 hbW hbw
      rcases hk567 with rfl | rfl | rfl
      · have hn : xs.length = 2 := by
          have := HCf.out
          simpa [countFits] using this
        obtain ⟨x, y, rfl⟩ : ∃ x y, is = [x, y] := by
          match is, hl.trans hn with
          | [x, y], _ => exact ⟨x, y, rfl⟩
        rcases hrow with h0 | ⟨b, off, rfl, hb, ⟨s0, _⟩, ⟨s1, _⟩, _⟩
        · cases h0
        have hR : finIs 5 noSg [x, y] = if (x.toList == y.toList) && ((x.toList == [105, 110, 116]) || (x.toList == [116, 101, 120, 116])) then (x, 0) else badEx 8 := by
          unfold finIs
          rw [if_neg (by decide), if_pos rfl]
          simp only [sEq, int_list, text_list]
          rfl
        have HS0 : Hid (∀ n, (wr.drewN n).cell? ⟨b, off, none⟩ = some (.string x)) := fun _ => s0
        rw [hR] at HFin
        have hi0 : (0 : Int) < (xs.length : Int) := by omega
        have hi1 : (1 : Int) < (xs.length : Int) := by omega
        clear hR hl HCf hn HIsz
        cases h1 : (x.toList == y.toList) with
        | false =>
          have HF := veil HFin.out
          rw [h1, Bool.false_and, if_neg (by decide)] at HF
          clear HFin
          go_wp2_with fail
          go_quiet (fail)
          go_wp2_with fail
          go_ret2
          exact ⟨by rw [HF.out]; rfl, HDn.out _⟩
        | true =>
          cases h2 : (x.toList == [105, 110, 116]) with
          | true =>
            have HF := veil HFin.out
            rw [h1, h2, if_pos (by simp)] at HF
            clear HFin
            go_wp2_with fail
            go_quiet (fail)
            have d0 := HS0.out nq
            go_wp2_with fail
            go_ret2
            exact ⟨by rw [HF.out]; rfl, HDn.out _⟩
          | false =>
            cases h3 : (x.toList == [116, 101, 120, 116]) with
            | true =>
              have HF := veil HFin.out
              rw [h1, h2, h3, if_pos (by decide)] at HF
              clear HFin
              go_wp2_with fail
              go_quiet (fail)
              have d0 := HS0.out nq
              go_wp2_with fail
              go_ret2
              exact ⟨by rw [HF.out]; rfl, HDn.out _⟩
            | false =>
              have HF := veil HFin.out
              rw [h1, h2, h3, if_neg (by decide)] at HF
              clear HFin
              go_wp2_with fail
              go_quiet (fail)
              go_wp2_with fail
              go_ret2
              exact ⟨by rw [HF.out]; rfl, HDn.out _⟩
      · have hn : 0 < xs.length := by
          have := HCf.out
          simpa [countFits] using this
        have hi0 : (0 : Int) < (xs.length : Int) := by omega
        have hin : is.length = xs.length := hl
        rcases hrow with h0 | ⟨b, off, rfl, hb, hr⟩
        · omega
        have hR : finIs 6 noSg is = if is.all (fun i => sEq i (is.getD 0 .empty)) then (if listErr (is.getD 0 .empty) = 0 then (wrapK (is.getD 0 .empty), 0) else badEx 8) else badEx 8 := by
          unfold finIs
          rw [if_neg (by decide), if_neg (by decide), if_pos rfl]
        rw [hR] at HFin
        have HS : Hid (∀ q (hq : q < is.length) W', Below wr.heap.size wr W' → W'.cell? ⟨b, off + q, none⟩ = some (.string is[q])) := fun q hq W' hW' => by
          have := (hr.get q hq).1
          rw [Nat.mul_one] at this
          exact (hW'.cell (p := ⟨b, off + q, none⟩) hb).trans this
        have he0 : is[0]'(by omega) = is.getD 0 .empty := by rw [List.getD_eq_getElem?_getD, List.getElem?_eq_getElem (by omega), Option.getD_some]
        have HS0 : Hid (∀ W', Below wr.heap.size wr W' → W'.cell? ⟨b, off, none⟩ = some (.string (is.getD 0 .empty))) := fun W' hW' => by
          rw [← he0]
          exact HS.out 0 (by omega) W' hW'
        have hx0 : (is.getD 0 .empty).size ≤ maxLen := by
          rw [← he0]
          exact (hr.get 0 (by omega)).2
        have HNo : Hid (∀ q (hq : q < is.length), (is[q].toList == (is.getD 0 .empty).toList) = false → endIs 6 noSg (exsIs ps fc xs) = badEx 8) := fun q hq h => by
          rw [HFin.out, if_neg]
          intro hall
          have := List.all_eq_true.1 hall is[q] (List.getElem_mem hq)
          rw [show sEq is[q] (is.getD 0 .empty) = (is[q].toList == (is.getD 0 .empty).toList) from rfl, h] at this
          cases this
        have HYes : Hid ((∀ q (hq : q < is.length), (is[q].toList == (is.getD 0 .empty).toList) = true) → endIs 6 noSg (exsIs ps fc xs) = if listErr (is.getD 0 .empty) = 0 then (wrapK (is.getD 0 .empty), 0) else badEx 8) := fun h => by
          rw [HFin.out, if_pos]
          rw [List.all_eq_true]
          intro y hy
          obtain ⟨q, hq, rfl⟩ := List.getElem_of_mem hy
          exact h q hq
        clear hR he0 HFin HCf hl hr HIsz HDn
        generalize is.getD 0 .empty = x0 at *
        obtain ⟨wo, hwo⟩ : ∃ wo, wo = wr := ⟨_, rfl⟩
        subst hwo
        go_wp2_with fail
        go_loopw [23] (fun i wz => ∃ j : Nat, j ≤ xs.length ∧ i = .int .i64 j ∧ (∀ q (hq : q < is.length), q < j → (is[q].toList == x0.toList) = true) ∧ Below wo.heap.size wo wz) (fun i _ => xs.length - (intOf i).toNat)
        case atStart => exact ⟨0, Nat.zero_le _, rfl, (fun q _ h => by omega), Below.refl _ _⟩
        case round =>
          obtain ⟨j, hj, rfl, hq, hbz⟩ := hrel
          have HQ := veil hq
          have HBz := veil hbz
          have HDn : Hid (∀ n, Below wo.heap.size wo (wr.drewN n)) := fun n => below_drewN hbz n
          have HWn : Hid (∀ n, Below W.heap.size W (wr.drewN n)) := fun n => below_drewN (HBW.out.trans (hbz.mono HBW.out.size)) n
          have d0 := HS0.out wr hbz
          clear hq hbz
          by_cases hlt : j < xs.length
          · have hlt' : (j : Int) < (xs.length : Int) := by omega
            have hj0 : (0 : Int) ≤ (j : Int) := by omega
            have hji : j < is.length := by omega
            have dj := HS.out j hji wr HBz.out
            have HNoj := veil (HNo.out j hji)
            have HQj : Hid ((is[j].toList == x0.toList) = true → ∀ q (hq : q < is.length), q < j + 1 → (is[q].toList == x0.toList) = true) := fun h q hq hq1 => by
              by_cases e : q = j
              · subst e; exact h
              · exact HQ.out q hq (by omega)
            clear HS HNo HQ HYes
            generalize is[j] = xj at *
            cases hx : (xj.toList == x0.toList) with
            | true =>
              have HN := veil (HQj.out hx)
              have hx' : (xj.toList != x0.toList) = false := by simp [bne, hx]
              clear HNoj HQj
              go_wp2_with fail
              go_quiet (fail)
              go_wp2_with fail
              exact ⟨⟨j + 1, by omega, by go_num, HN.out, HDn.out _⟩, by simp [intOf]; omega⟩
            | false =>
              have HN := veil (HNoj.out hx)
              have hx' : (xj.toList != x0.toList) = true := by simp [bne, hx]
              clear HNoj HQj
              go_wp2_with fail
              go_quiet (fail)
              go_wp2_with fail
              go_ret2
              exact ⟨by rw [HN.out]; rfl, HWn.out _⟩
          · have hnl2 : ¬ (j : Int) < (xs.length : Int) := by omega
            have HR := veil (HYes.out (fun q hq => HQ.out q hq (by omega)))
            have HWb : Hid (Below W.heap.size W wr) := HBW.out.trans (HBz.out.mono HBW.out.size)
            clear HS HNo HQ HYes HDn HWn
            by_cases he : listErr x0 = 0
            · rw [if_pos he] at HR
              have HK := veil (fun W => kindList_good he W)
              clear he
              go_wp2_with fail
              refine (HK.out _).mono ?_
              rintro e w6 ⟨rfl, rfl⟩
              go_wp2_with fail
              go_ret2
              exact ⟨by rw [HR.out]; rfl, HWb.out⟩
            · rw [if_neg he] at HR
              have HK := veil (fun W => kindList_bad hx0 he W)
              have he' : (listErr x0 != 0) = true := by simp [he]
              have he2 : (listErr x0 == 0) = false := by simp [he]
              clear he
              go_wp2_with fail
              refine (HK.out _).mono ?_
              rintro e w6 ⟨rfl, rfl⟩
              go_wp2_with fail
              go_ret2
              exact ⟨by rw [HR.out]; rfl, HWb.out⟩
      · have hn : xs.length = 2 := by
          have := HCf.out
          simpa [countFits] using this
        obtain ⟨x, y, rfl⟩ : ∃ x y, is = [x, y] := by
          match is, hl.trans hn with
          | [x, y], _ => exact ⟨x, y, rfl⟩
        rcases hrow with h0 | ⟨b, off, rfl, hb, ⟨s0, hx0⟩, ⟨s1, _⟩, _⟩
        · cases h0
        have hR : finIs 7 noSg [x, y] = if isList x && (y.toList == [105, 110, 116]) then (inner x, 0) else badEx 8 := by
          unfold finIs
          rw [if_neg (by decide), if_neg (by decide), if_neg (by decide)]
          simp only [sEq, int_list]
          rfl
        rw [hR] at HFin
        have hi0 : (0 : Int) < (xs.length : Int) := by omega
        have hi1 : (1 : Int) < (xs.length : Int) := by omega
        clear hR hl HCf hn HIsz
        cases h1 : isList x with
        | false =>
          have HF := veil HFin.out
          rw [h1, Bool.false_and, if_neg (by decide)] at HF
          have HEl := veil (fun W => elemOf_none hx0 h1 W)
          clear HFin h1
          go_wp2_with fail
          refine (HEl.out _).mono ?_
          rintro e w6 ⟨rfl, rfl⟩
          go_wp2_with fail
          go_ret2
          exact ⟨by rw [HF.out]; rfl, HBW.out⟩
        | true =>
          have HEl := veil (fun W => elemOf_list hx0 h1 W)
          cases h2 : (y.toList == [105, 110, 116]) with
          | true =>
            have HF := veil HFin.out
            rw [h1, h2, if_pos (by decide)] at HF
            clear HFin h1
            go_wp2_with fail
            refine (HEl.out _).mono ?_
            rintro e w6 ⟨rfl, rfl⟩
            go_wp2_with fail
            go_ret2
            exact ⟨by rw [HF.out]; rfl, HBW.out⟩
          | false =>
            have HF := veil HFin.out
            rw [h1, h2, if_neg (by decide)] at HF
            clear HFin h1
            go_wp2_with fail
            refine (HEl.out _).mono ?_
            rintro e w6 ⟨rfl, rfl⟩
            go_wp2_with fail
            go_ret2
            exact ⟨by rw [HF.out]; rfl, HBW.out⟩

end Go.Proofs.YtcpnfkeoajeodaaGreatDoor
