/- What face.Show answers, at every face: the fault's number, and its lines where there is none. -/
import Derived.Test.YtpolmcleiimlcaeFaceSpec
import Derived.Test.YtpolmcleiimlcaeBuildS
import Derived.Test.YtpolmcleiimlcaeShelfJ
import Derived.Deep.RegionHeld3
namespace Go.Proofs.Ytpolmcleiimlcae
open Go.RowKit

theorem builder_below {T e : TypeId} {B b : Nat} {bs : List Value} {w w' : World} (h : Lib.IsBuilder T e B b bs w) (hb : Below w.heap.size w w') : Lib.IsBuilder T e B b bs w' := by
  have one : ∀ p, Lib.BuilderAt T e B b p bs w → Lib.BuilderAt T e B b p bs w' := by
    rintro p hp
    have hlt := hp.lt
    obtain ⟨hB, v, hbk, hown, hne⟩ := hp
    refine ⟨hB, v, ?_, ?_, hne⟩
    · rw [hb.block b hlt]; exact hbk
    · obtain ⟨hx, h | ⟨g, cap, cur, hv, hg, hh, h1, h2, h3, h4⟩⟩ := hown
      · exact ⟨hx, Or.inl h⟩
      · refine ⟨hx, Or.inr ⟨g, cap, cur, hv, hg, ?_, h1, h2, h3, h4⟩⟩
        rw [hb.block g ?_]
        · exact hh
        · rcases Nat.lt_or_ge g w.heap.size with h | h
          · exact h
          · rw [Array.getElem?_eq_none h] at hh
            cases hh
  rcases h with h | h
  · exact Or.inl (one _ h)
  · exact Or.inr (one _ h)

theorem builder_new (w : World) (B : Nat) (hB : B ≤ w.heap.size) : Lib.IsBuilder 67 5 B w.heap.size [] (w.alloc (.cells #[.pointer none, .slice none 0 0] 67)) := by
  refine Or.inl ⟨hB, .slice none 0 0, ?_, World.ownsRow_nil _ _ _ _, by simp [Value.ownBlock]⟩
  exact heap_alloc_new w _
theorem builder_lt {T e : TypeId} {B b : Nat} {bs : List Value} {w : World} (h : Lib.IsBuilder T e B b bs w) : b < w.heap.size := by
  rcases h with h | h
  · exact h.lt
  · exact h.lt
theorem byteCells_snoc (a s : List UInt8) : Lib.byteCells a ++ Lib.strCells (textOf s) = Lib.byteCells (a ++ s) := by
  simp [Lib.byteCells, Lib.strCells, textOf]

theorem knLine_text (k : Kn) : ByteArray.mk #[116, 121, 112, 101, 32] ++ k.name ++ ByteArray.mk #[32, 61, 32] ++ k.is ++ ByteArray.mk #[10] = textOf (knLine k) := by
  unfold knLine
  rw [← textOf_append, ← textOf_append, ← textOf_append, ← textOf_append, textOf_data, textOf_data]
  rfl
theorem sgLine_text (g : Sg) : ByteArray.mk #[102, 117, 110, 99, 32] ++ g.name ++ ByteArray.mk #[40] ++ textOf (paramsTo g.params g.params.length) ++ ByteArray.mk #[41, 58, 32] ++ g.result ++ ByteArray.mk #[10] = textOf (sgLine g) := by
  unfold sgLine sgHead sgTail
  rw [← textOf_append, ← textOf_append, ← textOf_append, ← textOf_append, ← textOf_append, ← textOf_append, textOf_data, textOf_data]
  simp only [ByteArray.append_assoc]
  rfl

/-- strings.Join of a function's parameters. -/
theorem join_any (S : Nat → Prop) (ps : List ByteArray) (v : Value) (w : World) (hS : ∀ b, S b → b < w.heap.size) (hv : SlAt S (StrAt w) 1 ps v) (h8 : ps.length ≤ 8) (hp : ∀ p ∈ ps, p.size ≤ 600) :
    Calls Try.prog 39 #[v, .string ⟨#[44, 32]⟩] w fun e w' => e = .returned (.string (textOf (paramsTo ps ps.length))) ∧ Below w.heap.size w w' := by
  obtain ⟨a, cap, rfl, ⟨hm, hc⟩, h⟩ := hv
  have hle := paramsTo_le hp ps.length (Nat.le_refl _)
  rcases h with h | ⟨b, o, rfl, hb, hr⟩
  · obtain rfl : ps = [] := List.length_eq_zero_iff.1 h
    refine (Try.strings_Join_none a cap ⟨#[44, 32]⟩ w).mono ?_
    rintro e w' ⟨rfl, rfl⟩
    exact ⟨rfl, Below.refl _ _⟩
  · refine (Try.strings_Join b o cap ps ⟨#[44, 32]⟩ w (fun j x hx => ?_) (hS b hb) (by omega) hc (by rw [show (ByteArray.mk #[44, 32]).data.toList = [44, 32] from rfl, join_params]; omega)).mono ?_
    · obtain ⟨hj, rfl⟩ := List.getElem?_eq_some_iff.1 hx
      have := (hr.get j hj).1
      rw [Nat.mul_one] at this
      exact this
    · rintro e w' ⟨rfl, hb'⟩
      rw [show (ByteArray.mk #[44, 32]).data.toList = [44, 32] from rfl, join_params]
      exact ⟨rfl, hb'⟩

/-- what a function's line keeps while it is made. -/
def SgHeld (M : Nat) (x y : ByteArray) (p : Value) (W : World) : Prop :=
  W.heap[M]? = some (.cells #[.string x, p, .string y] 34 (0, 0)) ∧ W.cell? ⟨M, 0, none⟩ = some (.string x) ∧ W.cell? ⟨M, 1, none⟩ = some p ∧ W.cell? ⟨M, 2, none⟩ = some (.string y)
theorem SgHeld.mk' {M : Nat} {x y : ByteArray} {p : Value} {W : World} (h : W.heap[M]? = some (.cells #[.string x, p, .string y] 34 (0, 0))) : SgHeld M x y p W :=
  ⟨h, by rw [cell_of_row _ _ _ _ _ _ h]; rfl, by rw [cell_of_row _ _ _ _ _ _ h]; rfl, by rw [cell_of_row _ _ _ _ _ _ h]; rfl⟩
theorem SgHeld.later {M : Nat} {x y : ByteArray} {p : Value} {W W' : World} (h : SgHeld M x y p W) (hb : Below W.heap.size W W') : SgHeld M x y p W' :=
  .mk' ((hb.block M (lt_of_block h.1)).trans h.1)
theorem SgHeld.written {M B : Nat} {x y : ByteArray} {p : Value} {W W' : World} (hM : M ≠ B) (h : SgHeld M x y p W) (hk : KeptBut B W W') : SgHeld M x y p W' :=
  .mk' ((hk M _ _ _ hM (by decide) h.1).trans h.1)

set_option maxHeartbeats 8000000 in
set_option maxRecDepth 100000 in
theorem show_face (S : Nat → Prop) (f : Fc) (v : Value) (w : World) (hS : ∀ b, S b → b < w.heap.size) (hv : FcIs S w f v) (hz : fcSmall f) :
    Calls Try.prog 17 #[v] w fun e w' => e = .returned (.tuple #[.string (fcShown f), .int .i64 (fcFault f)]) ∧ Below w.heap.size w w' := by
  have HV := veil hv
  obtain ⟨vt, vf, rfl, ht, hf⟩ := hv
  have HT := veil ht
  have HF := veil hf
  obtain ⟨a, cap, rfl⟩ := ht.is
  obtain ⟨a2, cap2, rfl⟩ := hf.is
  clear ht hf
  obtain ⟨w2, hwe, hs2, p0, p1, hbel⟩ : ∃ w2, w.alloc (.cells #[.slice a f.types.length cap, .slice a2 f.funcs.length cap2] 25) = w2 ∧ w2.heap.size = w.heap.size + 1 ∧
      w2.cell? ⟨w.heap.size, 0, none⟩ = some (.slice a f.types.length cap) ∧ w2.cell? ⟨w.heap.size, 1, none⟩ = some (.slice a2 f.funcs.length cap2) ∧ Below w.heap.size w w2 :=
    ⟨_, rfl, by simp, by simp [go_sem], by simp [go_sem], (Below.refl _ _).alloc (Nat.le_refl _) _⟩
  have HC : Hid (Calls Try.prog 37 #[.agg #[.slice a f.types.length cap, .slice a2 f.funcs.length cap2]] w2 fun e w' => e = .returned (.int .i64 (fcFault f)) ∧ Below w2.heap.size w2 w') :=
    checkFace_any S _ _ w2 (fun b hb => Nat.lt_of_lt_of_le (hS b hb) hbel.size) (HV.out.keep (Keeps.below hbel hS))
  have HWe := veil hwe
  have HBel := veil hbel
  have HP0 := veil p0
  have HP1 := veil p1
  clear HV hwe hbel p0 p1
  by_cases h0 : fcFault f = 0
  case neg =>
    have h0' : (fcFault f != 0) = true := by simpa using h0
    have HR : Hid (fcShown f = ⟨#[]⟩) := if_neg h0
    clear h0 HT HF
    go_enter Try.func17, Try.ntmps17
    go_wp2_with fail
    rw [HWe.out]
    refine HC.out.mono ?_
    rintro e w3 ⟨rfl, hb3⟩
    have HB3 := veil (HBel.out.trans (hb3.mono HBel.out.size))
    clear hb3
    go_wp2_with fail
    go_ret2
    exact ⟨by rw [HR.out]; rfl, HB3.out⟩
  have HR : Hid (fcShown f = textOf (fcText f)) := if_pos h0
  obtain ⟨h24, hkn, hsg⟩ := fc_good h0 hz
  have HKn := veil hkn
  have HSg := veil hsg
  rw [h0] at HC
  have HF0 := veil h0
  clear hkn hsg h0 hz
  go_enter Try.func17, Try.ntmps17
  go_wp2_with fail
  rw [HWe.out]
  refine HC.out.mono ?_
  rintro e w3 ⟨rfl, hb3⟩
  have hs3 := hb3.size
  have c0 := (hb3.cell (p := ⟨w.heap.size, 0, none⟩) (by show w.heap.size < _; omega)).trans HP0.out
  have hlt3 : w.heap.size < w3.heap.size := by omega
  have HC1 := veil ((hb3.cell (p := ⟨w.heap.size, 1, none⟩) (by show w.heap.size < _; omega)).trans HP1.out)
  have HB3 := veil (HBel.out.trans (hb3.mono HBel.out.size))
  have HNew := veil (builder_new w3 w3.heap.size (Nat.le_refl _))
  have HB4 : Hid (∀ o, Below w3.heap.size w3 (w3.alloc o)) := fun o => (Below.refl _ _).alloc (Nat.le_refl _) _
  clear hb3 HC HWe HP0 HP1
  go_wp2_with fail
  go_loopw [18] (fun i wr => ∃ k : Nat, k ≤ f.types.length ∧ i = .int .i64 k ∧ Lib.IsBuilder 67 5 w3.heap.size w3.heap.size (Lib.byteCells (linesTo knLine f.types k)) wr ∧ Below w3.heap.size w3 wr) (fun i _ => f.types.length - (intOf i).toNat)
  case atStart => exact ⟨0, Nat.zero_le _, rfl, HNew.out, HB4.out _⟩
  case round =>
    clear HNew HB4
    obtain ⟨k, hk, rfl, hbd, hbl⟩ := hrel
    have hbw := HB3.out.trans (hbl.mono HB3.out.size)
    have hblt := builder_lt hbd
    by_cases hlt : k < f.types.length
    · have hlt' : (k : Int) < (f.types.length : Int) := by omega
      obtain ⟨_, b, off, rfl, hb, ⟨a0, _⟩, a1, _⟩ := HT.out.at hlt
      have hbk := hS b hb
      have d0 := (hbw.cell (p := ⟨b, off + k * 2, none⟩) hbk).trans a0
      have d1 := (hbw.cell (p := ⟨b, off + k * 2 + 1, none⟩) hbk).trans a1
      have hbr : b < wr.heap.size := Nat.lt_of_lt_of_le hbk hbw.size
      obtain ⟨z0, z1, z2⟩ := knLine_le (HKn.out _ (List.getElem_mem hlt))
      have HTx := veil (knLine_text f.types[k])
      have HLs := veil (linesTo_succ (line := knLine) hlt)
      have HLe := veil (linesTo_le (line := knLine) (m := 700) (fun x hx => (knLine_le (HKn.out x hx)).2.2) k (by omega))
      have HBd : Hid (∀ o, Lib.IsBuilder 67 5 w3.heap.size w3.heap.size (Lib.byteCells (linesTo knLine f.types k)) (wr.alloc o)) := fun o => builder_below hbd ((Below.refl _ _).alloc (Nat.le_refl _) _)
      have HBl : Hid (∀ o, Below w3.heap.size w3 (wr.alloc o)) := fun o => hbl.alloc hbl.size _
      have hszw : w3.heap.size ≤ wr.heap.size := hbl.size
      clear a0 a1 HT HF hbw hbd hbl HKn HSg
      have HZ2 := veil z2
      clear z2
      have HSz : Hid (∀ s : ByteArray, s = textOf (knLine f.types[k]) → s.size ≤ 700) := fun s e => by rw [e, textOf_size]; exact HZ2.out
      generalize f.types[k].name = x at *
      generalize f.types[k].is = y at *
      have y1 : ¬ 9223372036854775807 < 5 + x.size := by omega
      have y2 : ¬ 9223372036854775807 < 5 + x.size + 3 := by omega
      have y3 : ¬ 9223372036854775807 < 5 + x.size + 3 + y.size := by omega
      have y4 : ¬ 9223372036854775807 < 5 + x.size + 3 + y.size + 1 := by omega
      go_wp2_with fail
      refine (writeString_any w3.heap.size w3.heap.size _ (ByteArray.mk #[116, 121, 112, 101, 32] ++ x ++ ByteArray.mk #[32, 61, 32] ++ y ++ ByteArray.mk #[10]) _ (HBd.out _) ?_ ?_).mono ?_
      · rw [Lib.byteCells_length]; have := HSz.out _ HTx.out; have := HLe.out; omega
      · simp; omega
      rintro e w5 ⟨rfl, hb5, hl5, _⟩
      rw [HTx.out, byteCells_snoc, ← HLs.out] at hb5
      have HB5 := veil hb5
      have HL5 := veil ((HBl.out _).trans hl5)
      clear hb5 hl5 HBd HBl
      go_wp2_with fail
      exact ⟨⟨k + 1, by omega, by go_num, HB5.out, HL5.out⟩, by simp [intOf]; omega⟩
    · have hnl : ¬ (k : Int) < (f.types.length : Int) := by omega
      have hke : k = f.types.length := by omega
      have HBd : Hid (Lib.IsBuilder 67 5 w3.heap.size w3.heap.size (Lib.byteCells (linesTo knLine f.types f.types.length ++ linesTo sgLine f.funcs 0)) wr) := by
        show Lib.IsBuilder _ _ _ _ _ _
        rw [show linesTo sgLine f.funcs 0 = [] from rfl, List.append_nil, ← hke]
        exact hbd
      have HBl := veil hbl
      have c1 := (hbl.cell (p := ⟨w.heap.size, 1, none⟩) hlt3).trans HC1.out
      have HLt := veil (linesTo_le (line := knLine) (m := 700) (fun x hx => (knLine_le (HKn.out x hx)).2.2) f.types.length (Nat.le_refl _))
      clear hbd hbl hbw HT hke HKn
      go_wp2_with fail
      clear c1
      rename World => wo
      have HTxt : Hid (fcText f = linesTo knLine f.types f.types.length ++ linesTo sgLine f.funcs f.funcs.length) := rfl
      generalize linesTo knLine f.types f.types.length = tl at *
      go_loopw [35] (fun i wr => ∃ k : Nat, k ≤ f.funcs.length ∧ i = .int .i64 k ∧ Lib.IsBuilder 67 5 w3.heap.size w3.heap.size (Lib.byteCells (tl ++ linesTo sgLine f.funcs k)) wr ∧ Below w3.heap.size w3 wr) (fun i _ => f.funcs.length - (intOf i).toNat)
      case atStart => exact ⟨0, Nat.zero_le _, rfl, HBd.out, HBl.out⟩
      case round =>
        clear HBd HBl
        obtain ⟨k, hk, rfl, hbd, hbl⟩ := hrel
        have hbw := HB3.out.trans (hbl.mono HB3.out.size)
        have hblt := builder_lt hbd
        by_cases hlt : k < f.funcs.length
        · have hlt' : (k : Int) < (f.funcs.length : Int) := by omega
          obtain ⟨_, b, off, rfl, hb, hat⟩ := HF.out.at hlt
          have hbk := hS b hb
          obtain ⟨p1, p3, a0, a1, a2', hps⟩ := sg_cells hat
          have d0 := (hbw.cell (p := ⟨b, off + k * 3, none⟩) hbk).trans a0
          have d1 := (hbw.cell (p := ⟨b, off + k * 3 + 1, none⟩) hbk).trans a1
          have d2 := (hbw.cell (p := ⟨b, off + k * 3 + 2, none⟩) hbk).trans a2'
          have hbr : b < wr.heap.size := Nat.lt_of_lt_of_le hbk hbw.size
          have hok := HSg.out _ (List.getElem_mem hlt)
          obtain ⟨z0, z1, z8, zp⟩ := sgOk_le hok
          obtain ⟨_, y0, _, y1⟩ := sgLine_le hok
          have HTx := veil (sgLine_text f.funcs[k])
          have HLs : Hid (tl ++ linesTo sgLine f.funcs k ++ sgLine f.funcs[k] = tl ++ linesTo sgLine f.funcs (k + 1)) := by show _ = _; rw [linesTo_succ hlt, List.append_assoc]
          have HLe := veil (linesTo_le (line := sgLine) (m := 5500) (fun x hx => (sgLine_le (HSg.out x hx)).2.2.2) k (by omega))
          have HJ : Hid (∀ W, Below w3.heap.size w3 W → Calls Try.prog 39 #[.slice p1 f.funcs[k].params.length p3, .string ⟨#[44, 32]⟩] W fun e w' => e = .returned (.string (textOf (paramsTo f.funcs[k].params f.funcs[k].params.length))) ∧ Below W.heap.size W w') := fun W hW => by
            have hW' := HB3.out.trans (hW.mono HB3.out.size)
            exact join_any S _ _ W (fun b hb => Nat.lt_of_lt_of_le (hS b hb) hW'.size) (strSl_keep (Keeps.below hW' hS) hps) z8 zp
          obtain ⟨w4, hw4, hh4, hb4, hl4⟩ : ∃ w4, wr.alloc (.cells #[.string f.funcs[k].name, .slice p1 f.funcs[k].params.length p3, .string f.funcs[k].result] 34) = w4 ∧ SgHeld wr.heap.size f.funcs[k].name f.funcs[k].result (.slice p1 f.funcs[k].params.length p3) w4 ∧ Lib.IsBuilder 67 5 w3.heap.size w3.heap.size (Lib.byteCells (tl ++ linesTo sgLine f.funcs k)) w4 ∧ Below w3.heap.size w3 w4 :=
            ⟨_, rfl, .mk' (heap_alloc_new wr _), builder_below hbd ((Below.refl _ _).alloc (Nat.le_refl _) _), hbl.alloc hbl.size _⟩
          have hne : wr.heap.size ≠ w3.heap.size := by omega
          have HK0 : Hid (SgHeld wr.heap.size f.funcs[k].name f.funcs[k].result (.slice p1 f.funcs[k].params.length p3) w4.drew) := hh4.later ((Below.refl _ _).drew)
          have HN : Hid (∀ W W', SgHeld wr.heap.size f.funcs[k].name f.funcs[k].result (.slice p1 f.funcs[k].params.length p3) W → Below W.heap.size W W' → SgHeld wr.heap.size f.funcs[k].name f.funcs[k].result (.slice p1 f.funcs[k].params.length p3) W') := fun _ _ h hb => h.later hb
          have HN2 : Hid (∀ W W', SgHeld wr.heap.size f.funcs[k].name f.funcs[k].result (.slice p1 f.funcs[k].params.length p3) W → KeptBut w3.heap.size W W' → SgHeld wr.heap.size f.funcs[k].name f.funcs[k].result (.slice p1 f.funcs[k].params.length p3) W') := fun _ _ h hb => h.written hne hb
          have HX : Hid (Lib.IsBuilder 67 5 w3.heap.size w3.heap.size (Lib.byteCells (tl ++ linesTo sgLine f.funcs k)) w4.drew ∧ Below w3.heap.size w3 w4.drew) := ⟨builder_below hb4 ((Below.refl _ _).drew), hl4.drew⟩
          have HW4 := veil hw4
          have HSz : Hid (∀ s : ByteArray, s = textOf (sgLine f.funcs[k]) → (Lib.byteCells (tl ++ linesTo sgLine f.funcs k)).length + s.size ≤ 140737488355328) := fun s e => by
            rw [e, textOf_size, Lib.byteCells_length, List.length_append]
            have := HLe.out
            have := HLt.out
            omega
          have hj1 : (textOf (paramsTo f.funcs[k].params f.funcs[k].params.length)).size ≤ 4816 := y0
          have HWr : Hid (∀ W (s : ByteArray), s = textOf (sgLine f.funcs[k]) → Lib.IsBuilder 67 5 w3.heap.size w3.heap.size (Lib.byteCells (tl ++ linesTo sgLine f.funcs k)) W ∧ Below w3.heap.size w3 W → Calls Try.prog 38 #[.pointer (some ⟨w3.heap.size, 0, none⟩), .string s] W fun e w' => e = .returned (.tuple #[.int .i64 s.size, .nilIface]) ∧ (Lib.IsBuilder 67 5 w3.heap.size w3.heap.size (Lib.byteCells (tl ++ linesTo sgLine f.funcs (k + 1))) w' ∧ Below w3.heap.size w3 w') ∧ KeptBut w3.heap.size W w') := fun W s e h => by
            refine (writeString_any w3.heap.size w3.heap.size _ s W h.1 (HSz.out s e) h.2.size).mono ?_
            rintro e' w' ⟨rfl, h1, h2, h3⟩
            rw [e, byteCells_snoc, HLs.out] at h1
            exact ⟨rfl, ⟨h1, h.2.trans h2⟩, h3⟩
          clear a0 a1 a2' hat hps hok zp y0 y1 z8 hbd hbl hbw hw4 hh4 hb4 hl4 HF HSg HLs HLe HSz HLt
          generalize textOf (sgLine f.funcs[k]) = tx at *
          generalize textOf (paramsTo f.funcs[k].params f.funcs[k].params.length) = jt at *
          generalize f.funcs[k].params.length = pn at *
          generalize f.funcs[k].name = x at *
          generalize f.funcs[k].result = y at *
          have q1 : ¬ 9223372036854775807 < 5 + x.size := by omega
          have q2 : ¬ 9223372036854775807 < 5 + x.size + 1 := by omega
          have q3 : ¬ 9223372036854775807 < 5 + x.size + 1 + jt.size := by omega
          have q4 : ¬ 9223372036854775807 < 5 + x.size + 1 + jt.size + 3 := by omega
          have q5 : ¬ 9223372036854775807 < 5 + x.size + 1 + jt.size + 3 + y.size := by omega
          have q6 : ¬ 9223372036854775807 < 5 + x.size + 1 + jt.size + 3 + y.size + 1 := by omega
          go_wp2_with fail
          rw [HW4.out]
          go_region_held3 (fun W => W.heap[wr.heap.size]? = some (.cells #[.string x, .slice p1 pn p3, .string y] 34 (0, 0)) ∧ W.cell? ⟨wr.heap.size, 0, none⟩ = some (.string x) ∧ W.cell? ⟨wr.heap.size, 1, none⟩ = some (.slice p1 pn p3) ∧ W.cell? ⟨wr.heap.size, 2, none⟩ = some (.string y)) (first | exact HK0.out | exact HN.out _ _ (by assumption) (by assumption) | exact HN2.out _ _ (by assumption) (by assumption))
            (first
              | (go_at_call 39; refine (HJ.out _ HX.out.2).mono ?_; rintro e w' ⟨rfl, hb'⟩; replace HX := veil (And.intro (builder_below HX.out.1 hb') (HX.out.2.trans (hb'.mono HX.out.2.size))))
              | (go_at_call 38; refine (HWr.out _ _ HTx.out HX.out).mono ?_; rintro e w' ⟨rfl, hb', hkp'⟩; have HY := veil hb'; clear hb'))
          all_goals
            rename_i hHeld
            clear hHeld
            go_wp2_with fail
            exact ⟨⟨k + 1, by omega, by go_num, HY.out.1, HY.out.2⟩, by simp [intOf]; omega⟩
        · have hnl : ¬ (k : Int) < (f.funcs.length : Int) := by omega
          have hke : k = f.funcs.length := by omega
          subst hke
          rw [← HTxt.out] at hbd
          have HSt := veil (Try.Builder_String_any w3.heap.size w3.heap.size _ wr hbd hbl.size)
          have HBW := veil hbw
          clear hbd hbl hbw HF HSg
          go_wp2_with fail
          refine HSt.out.mono ?_
          rintro e w6 ⟨rfl, hb6⟩
          have HB6 := veil (HBW.out.trans (hb6.mono (by omega)))
          clear hb6
          go_wp2_with fail
          go_ret2
          exact ⟨by rw [HR.out, HF0.out]; rfl, HB6.out⟩

end Go.Proofs.Ytpolmcleiimlcae
