/- What the reference's FaceText answers, at every face: the fault's number, and its lines where there is none. -/
import Derived.Test.YtpolmcleiimlcaeFaceSpec
namespace Go.Proofs.Ytpolmcleiimlcae
open Go.RowKit

theorem knLine_on (A : List UInt8) (k : Kn) : textOf A ++ ByteArray.mk #[116, 121, 112, 101, 32] ++ k.name ++ ByteArray.mk #[32, 61, 32] ++ k.is ++ ByteArray.mk #[10] = textOf (A ++ knLine k) := by
  unfold knLine
  rw [← textOf_append, ← textOf_append, ← textOf_append, ← textOf_append, ← textOf_append, textOf_data, textOf_data]
  simp only [ByteArray.append_assoc]
  rfl
theorem sgHead_on (A : List UInt8) (g : Sg) : textOf A ++ ByteArray.mk #[102, 117, 110, 99, 32] ++ g.name ++ ByteArray.mk #[40] = textOf (A ++ sgHead g) := by
  unfold sgHead
  rw [← textOf_append, ← textOf_append, ← textOf_append, textOf_data]
  simp only [ByteArray.append_assoc]
  rfl
theorem sgTail_on (A : List UInt8) (g : Sg) : textOf A ++ ByteArray.mk #[41, 58, 32] ++ g.result ++ ByteArray.mk #[10] = textOf (A ++ sgTail g) := by
  unfold sgTail
  rw [← textOf_append, ← textOf_append, ← textOf_append, textOf_data]
  simp only [ByteArray.append_assoc]
  rfl
theorem param_on (A : List UInt8) (s : ByteArray) : textOf A ++ s = textOf (A ++ s.data.toList) := by rw [← textOf_append, textOf_data]
theorem comma_on (A : List UInt8) (s : ByteArray) : textOf A ++ ByteArray.mk #[44, 32] ++ s = textOf (A ++ ([44, 32] ++ s.data.toList)) := by
  rw [← textOf_append, ← textOf_append, textOf_data, ByteArray.append_assoc]
  rfl

set_option maxHeartbeats 8000000 in
set_option maxRecDepth 100000 in
theorem text_face (S : Nat → Prop) (f : Fc) (v : Value) (w : World) (hS : ∀ b, S b → b < w.heap.size) (hv : FcIs S w f v) (hz : fcSmall f) :
    Calls Try.prog 18 #[v] w fun e w' => e = .returned (.tuple #[.string (fcShown f), .int .i64 (fcFault f)]) ∧ Below w.heap.size w w' := by
  have HV := veil hv
  obtain ⟨vt, vf, rfl, ht, hf⟩ := hv
  have HT := veil ht
  have HF := veil hf
  obtain ⟨a, cap, rfl⟩ := ht.is
  obtain ⟨a2, cap2, rfl⟩ := hf.is
  clear ht hf
  obtain ⟨w2, hwe, hs2, p0, p1, hbel⟩ : ∃ w2, w.alloc (.cells #[.slice a f.types.length cap, .slice a2 f.funcs.length cap2] 25) = w2 ∧ w2.heap.size = w.heap.size + 1 ∧
      w2.cell? ⟨w.heap.size, 0, none⟩ = some (.slice a f.types.length cap) ∧ w2.cell? ⟨w.heap.size, 1, none⟩ = some (.slice a2 f.funcs.length cap2) ∧ Below w.heap.size w w2 :=
    ⟨_, rfl, by simp, by simp [go_sem], by simp [go_sem], (Below.refl _ _).alloc (Nat.le_refl _) _⟩
  have HC : Hid (Calls Try.prog 11 #[.agg #[.slice a f.types.length cap, .slice a2 f.funcs.length cap2]] w2 fun e w' => e = .returned (.int .i64 (fcFault f)) ∧ Below w2.heap.size w2 w') :=
    faceFault_any S _ _ w2 (fun b hb => Nat.lt_of_lt_of_le (hS b hb) hbel.size) (HV.out.keep (Keeps.below hbel hS))
  have HWe := veil hwe
  have HBel := veil hbel
  have HP0 := veil p0
  have HP1 := veil p1
  clear HV hwe hbel p0 p1
  by_cases h0 : fcFault f = 0
  case neg =>
    have h0' : (fcFault f != 0) = true := by simpa using h0
    have HR : Hid (fcShown f = ⟨#[]⟩) := if_neg h0
    clear h0 HT HF
    go_enter Try.func18, Try.ntmps18
    go_wp2_with fail
    rw [HWe.out]
    refine HC.out.mono ?_
    rintro e w3 ⟨rfl, hb3⟩
    have HB3 := veil (HBel.out.trans (hb3.mono HBel.out.size))
    clear hb3
    go_wp2_with fail
    go_ret2
    exact ⟨by rw [HR.out]; rfl, HB3.out⟩
  have HR : Hid (fcShown f = textOf (fcText f)) := if_pos h0
  obtain ⟨h24, hkn, hsg⟩ := fc_good h0 hz
  have HKn := veil hkn
  have HSg := veil hsg
  rw [h0] at HC
  have HF0 := veil h0
  clear hkn hsg h0 hz
  go_enter Try.func18, Try.ntmps18
  go_wp2_with fail
  rw [HWe.out]
  refine HC.out.mono ?_
  rintro e w3 ⟨rfl, hb3⟩
  have HB3 := veil hb3
  clear hb3 HC HWe
  go_wp2_with fail
  go_loopw [5, 6] (fun sv i wr => ∃ k : Nat, k ≤ f.types.length ∧ i = .int .i64 k ∧ sv = .string (textOf (linesTo knLine f.types k)) ∧ Below w2.heap.size w2 wr) (fun _ i _ => f.types.length - (intOf i).toNat)
  case atStart => exact ⟨0, Nat.zero_le _, rfl, rfl, HB3.out⟩
  case round =>
    clear HB3
    obtain ⟨k, hk, rfl, rfl, hbl⟩ := hrel
    have HBL := veil hbl
    have hbw := HBel.out.trans (hbl.mono HBel.out.size)
    have HBW := veil hbw
    have c0 := (hbl.cell (p := ⟨w.heap.size, 0, none⟩) (by show w.heap.size < _; omega)).trans HP0.out
    clear hbl
    by_cases hlt : k < f.types.length
    · have hlt' : (k : Int) < (f.types.length : Int) := by omega
      obtain ⟨_, b, off, rfl, hb, ⟨a0, _⟩, a1, _⟩ := HT.out.at hlt
      have hbk := hS b hb
      have d0 := (hbw.cell (p := ⟨b, off + k * 2, none⟩) hbk).trans a0
      have d1 := (hbw.cell (p := ⟨b, off + k * 2 + 1, none⟩) hbk).trans a1
      obtain ⟨z0, z1, _⟩ := knLine_le (HKn.out _ (List.getElem_mem hlt))
      have HTx : Hid (textOf (linesTo knLine f.types k) ++ ByteArray.mk #[116, 121, 112, 101, 32] ++ f.types[k].name ++ ByteArray.mk #[32, 61, 32] ++ f.types[k].is ++ ByteArray.mk #[10] = textOf (linesTo knLine f.types (k + 1))) := by
        show _ = _
        rw [knLine_on, linesTo_succ hlt]
      have hle : (textOf (linesTo knLine f.types k)).size ≤ 700 * k := linesTo_le (line := knLine) (m := 700) (fun x hx => (knLine_le (HKn.out x hx)).2.2) k (by omega)
      have HDr : Hid (∀ n, Below w2.heap.size w2 (wr.drewN n)) := fun n => below_drewN HBL.out n
      clear a0 a1 HT HF hbw HKn HSg HP0 HP1
      generalize f.types[k].name = x at *
      generalize f.types[k].is = y at *
      generalize textOf (linesTo knLine f.types k) = t0 at *
      have y0 : ¬ 9223372036854775807 < t0.size + 5 := by omega
      have y1 : ¬ 9223372036854775807 < t0.size + 5 + x.size := by omega
      have y2 : ¬ 9223372036854775807 < t0.size + 5 + x.size + 3 := by omega
      have y3 : ¬ 9223372036854775807 < t0.size + 5 + x.size + 3 + y.size := by omega
      have y4 : ¬ 9223372036854775807 < t0.size + 5 + x.size + 3 + y.size + 1 := by omega
      clear hle
      go_wp2_with fail
      go_quiet (fail)
      go_wp2_with fail
      exact ⟨⟨k + 1, by omega, by go_num, by rw [← HTx.out], HDr.out _⟩, by simp [intOf]; omega⟩
    · have hnl : ¬ (k : Int) < (f.types.length : Int) := by omega
      have hke : k = f.types.length := by omega
      have HLt := veil (linesTo_le (line := knLine) (m := 700) (fun x hx => (knLine_le (HKn.out x hx)).2.2) f.types.length (Nat.le_refl _))
      have HTxt : Hid (fcText f = linesTo knLine f.types f.types.length ++ linesTo sgLine f.funcs f.funcs.length) := rfl
      have HSt : Hid (textOf (linesTo knLine f.types k) = textOf (linesTo knLine f.types f.types.length ++ linesTo sgLine f.funcs 0)) := by
        show _ = _
        rw [hke, show linesTo sgLine f.funcs 0 = [] from rfl, List.append_nil]
      clear HT hke HKn hbw HBW HP0
      go_wp2_with fail
      clear c0
      rename World => wo
      generalize linesTo knLine f.types f.types.length = tl at *
      go_loopw [5, 7] (fun sv i wr => ∃ k : Nat, k ≤ f.funcs.length ∧ i = .int .i64 k ∧ sv = .string (textOf (tl ++ linesTo sgLine f.funcs k)) ∧ Below w2.heap.size w2 wr) (fun _ i _ => f.funcs.length - (intOf i).toNat)
      case atStart => exact ⟨0, Nat.zero_le _, rfl, by rw [HSt.out], HBL.out⟩
      case round =>
        clear HSt HBL
        obtain ⟨k, hk, rfl, rfl, hbl⟩ := hrel
        rename World => wo2
        have HBL := veil hbl
        have hbw := HBel.out.trans (hbl.mono HBel.out.size)
        have HBW := veil hbw
        have c0 := (hbl.cell (p := ⟨w.heap.size, 1, none⟩) (by show w.heap.size < _; omega)).trans HP1.out
        clear hbl
        by_cases hlt : k < f.funcs.length
        · have hlt' : (k : Int) < (f.funcs.length : Int) := by omega
          obtain ⟨_, b, off, rfl, hb, hat⟩ := HF.out.at hlt
          have hbk := hS b hb
          obtain ⟨p1, p3, a0, a1, a2', hps⟩ := sg_cells hat
          have HPS := veil hps
          have hok := HSg.out _ (List.getElem_mem hlt)
          obtain ⟨z0, z1, z8, zp⟩ := sgOk_le hok
          obtain ⟨x0, x1, x2, x3⟩ := sgLine_le hok
          have HPl := veil (paramsTo_le zp)
          have HZp := veil zp
          have hle : (tl ++ linesTo sgLine f.funcs k).length ≤ 700 * f.types.length + 5500 * k := by
            have h1 := linesTo_le (line := sgLine) (m := 5500) (fun x hx => (sgLine_le (HSg.out x hx)).2.2.2) k (by omega)
            have h2 := HLt.out
            rw [List.length_append]
            omega
          have HCell : Hid (∀ W, Below w2.heap.size w2 W → W.cell? ⟨w.heap.size, 1, none⟩ = some (.slice (some ⟨b, off, none⟩) f.funcs.length cap2) ∧ W.cell? ⟨b, off + k * 3, none⟩ = some (.string f.funcs[k].name) ∧ W.cell? ⟨b, off + k * 3 + 1, none⟩ = some (.slice p1 f.funcs[k].params.length p3) ∧ W.cell? ⟨b, off + k * 3 + 2, none⟩ = some (.string f.funcs[k].result) ∧ Below w.heap.size w W) := fun W h => by
            have h' := HBel.out.trans (h.mono HBel.out.size)
            exact ⟨(h.cell (p := ⟨w.heap.size, 1, none⟩) (by show w.heap.size < _; omega)).trans HP1.out, (h'.cell (p := ⟨b, off + k * 3, none⟩) hbk).trans a0, (h'.cell (p := ⟨b, off + k * 3 + 1, none⟩) hbk).trans a1, (h'.cell (p := ⟨b, off + k * 3 + 2, none⟩) hbk).trans a2', h'⟩
          obtain ⟨_, d0, d1, d2, _⟩ := HCell.out _ HBL.out
          have HHd : Hid (textOf (tl ++ linesTo sgLine f.funcs k) ++ ByteArray.mk #[102, 117, 110, 99, 32] ++ f.funcs[k].name ++ ByteArray.mk #[40] = textOf (tl ++ linesTo sgLine f.funcs k ++ sgHead f.funcs[k] ++ paramsTo f.funcs[k].params 0)) := by
            show _ = _
            rw [sgHead_on, show paramsTo f.funcs[k].params 0 = [] from rfl, List.append_nil]
          have HTl : Hid (textOf (tl ++ linesTo sgLine f.funcs k ++ sgHead f.funcs[k] ++ paramsTo f.funcs[k].params f.funcs[k].params.length) ++ ByteArray.mk #[41, 58, 32] ++ f.funcs[k].result ++ ByteArray.mk #[10] = textOf (tl ++ linesTo sgLine f.funcs (k + 1))) := by
            show _ = _
            rw [sgTail_on, linesTo_succ hlt]
            unfold sgLine
            simp only [List.append_assoc]
          have hsz : (textOf (tl ++ linesTo sgLine f.funcs k)).size ≤ 700 * f.types.length + 5500 * k := hle
          have hsh : (tl ++ linesTo sgLine f.funcs k ++ sgHead f.funcs[k]).length ≤ 700 * f.types.length + 5500 * k + 20 := by rw [List.length_append]; omega
          generalize tl ++ linesTo sgLine f.funcs k ++ sgHead f.funcs[k] = hd at *
          generalize textOf (tl ++ linesTo sgLine f.funcs k) = t0 at *
          generalize f.funcs[k].params = ps at *
          generalize f.funcs[k].name = x at *
          generalize f.funcs[k].result = y at *
          have y0 : ¬ 9223372036854775807 < t0.size + 5 := by omega
          have y1 : ¬ 9223372036854775807 < t0.size + 5 + x.size := by omega
          have y2 : ¬ 9223372036854775807 < t0.size + 5 + x.size + 1 := by omega
          clear a0 a1 a2' hat hps hok zp x0 x1 x2 x3 hle hbw HF HSg HP1 hsz HLt
          go_wp2_with fail
          go_loopw [5, 8] (fun sv i wr => ∃ j : Nat, j ≤ ps.length ∧ i = .int .i64 j ∧ sv = .string (textOf (hd ++ paramsTo ps j)) ∧ Below w2.heap.size w2 wr) (fun _ i _ => ps.length - (intOf i).toNat)
          case atStart => exact ⟨0, Nat.zero_le _, rfl, by rw [← HHd.out], HBL.out⟩
          case round =>
            clear HHd HBL HBW c0 d0 d1 d2
            obtain ⟨j, hj, rfl, rfl, hbl⟩ := hrel
            obtain ⟨c0, d0, d1, d2, hbw⟩ := HCell.out _ hbl
            have HBl := veil hbl
            have HBw := veil hbw
            clear hbl
            have hpl := HPl.out j hj
            have hsz : (textOf (hd ++ paramsTo ps j)).size ≤ 700 * f.types.length + 5500 * k + 20 + 602 * j := by
              rw [textOf_size, List.length_append]; omega
            by_cases hlj : j < ps.length
            · have hlj' : (j : Int) < (ps.length : Int) := by omega
              obtain ⟨_, b3, off3, rfl, hb3, a0, _⟩ := HPS.out.at hlj
              rw [Nat.mul_one] at a0
              have e0 := (hbw.cell (p := ⟨b3, off3 + j, none⟩) (hS b3 hb3)).trans a0
              have zj := HZp.out _ (List.getElem_mem hlj)
              by_cases hj0 : j = 0
              · have hg : ¬ (0 : Int) < (j : Int) := by omega
                have HE : Hid (textOf (hd ++ paramsTo ps j) ++ ps[j] = textOf (hd ++ paramsTo ps (j + 1))) := by
                  show _ = _
                  subst hj0
                  rw [param_on, paramsTo_first hlj, show paramsTo ps 0 = [] from rfl, List.append_nil]
                clear hj0 a0 HPS hbw HTl HZp HPl hpl
                generalize textOf (hd ++ paramsTo ps j) = t1 at *
                generalize ps[j] = z at *
                have q0 : ¬ 9223372036854775807 < t1.size + z.size := by omega
                clear hsz
                go_wp2_with fail
                exact ⟨⟨j + 1, by omega, by go_num, by rw [← HE.out], HBl.out⟩, by simp [intOf]; omega⟩
              · have hg : (0 : Int) < (j : Int) := by omega
                have HE : Hid (textOf (hd ++ paramsTo ps j) ++ ByteArray.mk #[44, 32] ++ ps[j] = textOf (hd ++ paramsTo ps (j + 1))) := by
                  show _ = _
                  rw [comma_on, paramsTo_next (by omega) hlj]
                  simp only [List.append_assoc]
                clear hj0 a0 HPS hbw HTl HZp HPl hpl
                generalize textOf (hd ++ paramsTo ps j) = t1 at *
                generalize ps[j] = z at *
                have q0 : ¬ 9223372036854775807 < t1.size + 2 := by omega
                have q1 : ¬ 9223372036854775807 < t1.size + 2 + z.size := by omega
                clear hsz
                go_wp2_with fail
                exact ⟨⟨j + 1, by omega, by go_num, by rw [← HE.out], HBl.out⟩, by simp [intOf]; omega⟩
            · have hnj : ¬ (j : Int) < (ps.length : Int) := by omega
              have hje : j = ps.length := by omega
              rw [← hje] at HTl
              clear hje HPS hbw HZp HPl hpl
              generalize textOf (hd ++ paramsTo ps j) = t1 at *
              have q0 : ¬ 9223372036854775807 < t1.size + 3 := by omega
              have q1 : ¬ 9223372036854775807 < t1.size + 3 + y.size := by omega
              have q2 : ¬ 9223372036854775807 < t1.size + 3 + y.size + 1 := by omega
              clear hsz
              go_wp2_with fail
              exact ⟨⟨k + 1, by omega, by go_num, by rw [← HTl.out], HBl.out⟩, by simp [intOf]; omega⟩
        · have hnl : ¬ (k : Int) < (f.funcs.length : Int) := by omega
          have hke : k = f.funcs.length := by omega
          have HE : Hid (textOf (tl ++ linesTo sgLine f.funcs k) = fcShown f) := by
            show _ = _
            rw [HR.out, HTxt.out, hke]
          clear hke HF HSg hbw
          go_wp2_with fail
          go_ret2
          exact ⟨by rw [← HE.out, HF0.out]; rfl, HBW.out⟩

end Go.Proofs.Ytpolmcleiimlcae
