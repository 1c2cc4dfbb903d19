/- Of every two raw things: what a pattern is matched with is what comes of it when that is put in (MatchesPut), without conditions. The card is tied to the program's text. -/
import Derived.Test.YtpamadnckijfkadDoorMatchBack
import Derived.Test.YtpamadnckijfkadDoorKindOf
import Derived.Test.YtpamadnckijfkadDoorTie
import Derived.Test.YtpamadnckijfkadDoorCards
import Derived.Deep.RegionWith
import Derived.ProofKit
import Derived.OpenShut
import Derived.ShutString
import Derived.ChangeOld
import Derived.Lay
import Derived.LaidMore
import Derived.Stop.Joined
import Derived.SevenTiedAt
import Derived.SizedLaws
namespace Go.Proofs.YtpamadnckijfkadDoor.matchesPut
open Go.ChangeShapes Go.WideShapes Go.ChangeAt Go.RowKit
set_option maxRecDepth 100000

theorem own : ownKnob Tryd.prog.godebug = none := by kernel_rfl

theorem box_cells {W w1 : World} {a b c d : Value} {T : TypeId} (hb : Below (W.alloc (.cells #[a, b, c, d] T)).heap.size (W.alloc (.cells #[a, b, c, d] T)) w1) :
    w1.cell? ⟨W.heap.size, 0, none⟩ = some a ∧ w1.cell? ⟨W.heap.size, 1, none⟩ = some b ∧ w1.cell? ⟨W.heap.size, 2, none⟩ = some c ∧ w1.cell? ⟨W.heap.size, 3, none⟩ = some d := by
  refine ⟨?_, ?_, ?_, ?_⟩
  · rw [hb.cell (p := ⟨W.heap.size, 0, none⟩) (by simp), World.cell?_alloc_new]; rfl
  · rw [hb.cell (p := ⟨W.heap.size, 1, none⟩) (by simp), World.cell?_alloc_new]; rfl
  · rw [hb.cell (p := ⟨W.heap.size, 2, none⟩) (by simp), World.cell?_alloc_new]; rfl
  · rw [hb.cell (p := ⟨W.heap.size, 3, none⟩) (by simp), World.cell?_alloc_new]; rfl

theorem two_rows (W : World) (p i : ByteArray) (hp : p.size ≤ maxLen) (hi : i.size ≤ maxLen) :
    StrRow ((W.alloc (.cells #[.string p, .string p] 9)).alloc (.cells #[.string i, .string i] 9)) (.slice (some ⟨W.heap.size, 0, none⟩) 2 2) [p, p] ∧
    StrRow ((W.alloc (.cells #[.string p, .string p] 9)).alloc (.cells #[.string i, .string i] 9)) (.slice (some ⟨W.heap.size + 1, 0, none⟩) 2 2) [i, i] := by
  have hz : (W.alloc (.cells #[.string p, .string p] 9)).heap.size = W.heap.size + 1 := by simp
  refine ⟨.inr ⟨_, _, _, rfl, by simp [maxLen], ?_⟩, .inr ⟨_, _, _, rfl, by simp [maxLen], ?_⟩⟩
  · intro k hk
    have hk' : k = 0 ∨ k = 1 := by simp at hk; omega
    rw [World.cell?_alloc_past _ _ _ (by simp), World.cell?_alloc_at _ _ _ _ rfl]
    rcases hk' with rfl | rfl
    · exact ⟨rfl, hp⟩
    · exact ⟨rfl, hp⟩
  · intro k hk
    have hk' : k = 0 ∨ k = 1 := by simp at hk; omega
    rw [World.cell?_alloc_at _ _ _ _ hz.symm]
    rcases hk' with rfl | rfl
    · exact ⟨rfl, hi⟩
    · exact ⟨rfl, hi⟩

set_option maxHeartbeats 8000000 in
theorem walk (x y z u x' y' z' u' : Int) (hy : (Lit.int .i64 y).wf = true) (hz : (Lit.int .i64 z).wf = true) (hy' : (Lit.int .i64 y').wf = true) (hz' : (Lit.int .i64 z').wf = true) (w : World) :
    Calls Tryd.prog 5 #[.agg #[.int .i64 x, .int .i64 y, .int .i64 z, .int .i64 u], .agg #[.int .i64 x', .int .i64 y', .int .i64 z', .int .i64 u']] w fun e w' => e = .returned (.bool true) ∧ Below w.heap.size w w' := by
  obtain ⟨n, j, hn, hj, hK⟩ := kind_raw x y z u hy hz
  obtain ⟨m, k, hm, hk, hK'⟩ := kind_raw x' y' z' u' hy' hz'
  have HG := veilK (good_of_facts (facts_all n hn j hj m hm k hk))
  have HK := veilK hK
  have HK' := veilK hK'
  clear hK hK' hy hz hy' hz' hn hj hm hk
  generalize kText n j = p at *
  generalize kText m k = i at *
  have zp := HG.out.sizeP
  have zi := HG.out.sizeI
  have HM := veilK (fun b (hb : b.size ≤ 600) w => match_any p i b (by unfold maxLen; omega) (by unfold maxLen; omega) (by unfold maxLen; omega) w)
  go_enter Tryd.func5, Tryd.ntmps5
  go_wp2_with fail
  refine (HK.out _).mono ?_
  rintro e w1 ⟨rfl, hb1⟩
  obtain ⟨c0, c1, c2, c3⟩ := box_cells hb1
  rw [show (w.alloc (.cells #[.int .i64 x, .int .i64 y, .int .i64 z, .int .i64 u] 30)).heap.size = w.heap.size + 1 by simp] at c0 c1 c2 c3
  have HB1 : Hid (Below w.heap.size w w1) := (((Below.refl _ _).alloc (Nat.le_refl _) _).alloc (by simp) _).trans (hb1.mono (by simp; omega))
  clear hb1 HK
  go_wp2_with fail
  refine (HK'.out _).mono ?_
  rintro e w2 ⟨rfl, hb2⟩
  have HB2 := veilK (HB1.out.trans (hb2.mono HB1.out.size))
  clear hb2 HB1 c0 c1 c2 c3 HK'
  go_wp2_with fail
  refine (HM.out ⟨#[]⟩ (Nat.zero_le _) _).mono ?_
  rintro e w3 ⟨rfl, hb3⟩
  have HB3 := veilK (HB2.out.trans (hb3.mono HB2.out.size))
  clear hb3 HB2
  have HX := veilK (matchVal_size p i ⟨#[]⟩)
  by_cases he : matchErr p i ⟨#[]⟩ = 0
  · have HS := veilK (HG.out.shut he)
    have HO := veilK (HG.out.var he)
    rw [he]
    clear he HG
    go_wp2_with fail
    refine (open_any p _).mono ?_
    rintro e w4 ⟨rfl, rfl⟩
    cases hv : hasVar p with
    | false =>
      obtain ⟨s1, s2⟩ := HS.out hv
      clear HO HS HM hv HX
      generalize matchVal p i ⟨#[]⟩ = t at *
      go_wp2_with fail
      go_ret
      exact ⟨rfl, HB3.out⟩
    | true =>
      have HF := veilK (HO.out hv)
      clear HO HS hv
      generalize matchVal p i ⟨#[]⟩ = t at *
      have zt := HX.out
      go_wp2_with fail
      refine (put_any p t (by unfold maxLen; omega) (by unfold maxLen; omega) _).mono ?_
      rintro e w4 ⟨rfl, hb4⟩
      rw [HF.out.1, HF.out.2.1]
      have HB4 := veilK (HB3.out.trans (hb4.mono HB3.out.size))
      clear hb4 HB3
      go_wp2_with fail
      refine (HM.out t zt _).mono ?_
      rintro e w5 ⟨rfl, hb5⟩
      rw [HF.out.2.2.1, HF.out.2.2.2.1]
      have HB5 := veilK (HB4.out.trans (hb5.mono HB4.out.size))
      clear hb5 HB4
      go_wp2_with fail
      have HR := veilK (two_rows w5 p i (by unfold maxLen; omega) (by unfold maxLen; omega))
      have HW : Hid (⟨#[91]⟩ ++ p ++ ⟨#[93]⟩ = wrapK p) := rfl
      have HW' : Hid (⟨#[91]⟩ ++ i ++ ⟨#[93]⟩ = wrapK i) := rfl
      have e1 : (⟨#[91]⟩ : ByteArray).size = 1 := rfl
      have e2 : (⟨#[93]⟩ : ByteArray).size = 1 := rfl
      have zw : (wrapK p).size ≤ 20 := by unfold wrapK; rw [ByteArray.size_append, ByteArray.size_append]; omega
      refine (all_any _ _ [p, p] [i, i] (wrapK p) (by unfold maxLen; omega) _ HR.out.1 HR.out.2).mono ?_
      rintro e w6 ⟨rfl, hb6⟩
      rw [HF.out.2.2.2.2.1, HF.out.2.2.2.2.2]
      have HB6 : Hid (Below w.heap.size w w6) := HB5.out.trans ((((Below.refl _ _).alloc (Nat.le_refl _) _).alloc (by simp) _).trans (hb6.mono (by simp; omega)) |>.mono HB5.out.size)
      have q1 : (i.toList == i.toList) = true := by simp
      have q2 : (t.toList == t.toList) = true := by simp
      have q3 : ((wrapK i).toList == (⟨#[91]⟩ ++ i ++ ⟨#[93]⟩ : ByteArray).toList) = true := by rw [HW'.out]; simp
      have hl1 : ¬ 9223372036854775807 < 1 + i.size := by omega
      have hl2 : ¬ 9223372036854775807 < 1 + i.size + 1 := by omega
      clear hb6 HB5 HF HR HM HW zw e1 e2
      go_wp2_with fail
      go_ret
      exact ⟨rfl, HB6.out⟩
  · obtain ⟨e8, hne⟩ := HG.out.bad he
    have hne' : (p.toList != i.toList) = true := by rw [bne, hne]; rfl
    rw [e8]
    clear HG HM he e8 HX
    generalize matchVal p i ⟨#[]⟩ = t at *
    go_wp2_with fail
    go_ret
    exact ⟨rfl, HB3.out⟩

theorem cellsRaw : Tryd.prog.cellsOf 30 = 4 := by kernel_rfl
theorem cellsInt : Tryd.prog.cellsOf 3 = 1 := by kernel_rfl
theorem laidOut : laidOutB Tryd.prog = true := by kernel_rfl

theorem raw_read {H : Type} {enc : TypeId × Value → H} {W : World} {base : Nat} {spare : Nat → Bool} {held : Bool} (fuel : Nat) (cs : List Value) (x : DataW H × List MemPlace) (h : DataW.trod enc Tryd.prog W base spare held fuel 30 cs = some x) :
    ∃ a b c d, cs = [.int .i64 a, .int .i64 b, .int .i64 c, .int .i64 d] ∧ (Lit.int .i64 b).wf = true ∧ (Lit.int .i64 c).wf = true := by
  obtain ⟨ys, n, _, _, hlen, hyl0, hf⟩ := DataW.trod_struct Tryd.underlying30 h
  rw [cellsRaw] at hlen
  match cs, hlen with
  | [v0, v1, v2, v3], _ =>
    have g0 : DataW.trod enc Tryd.prog W base spare held n 3 (([v0, v1, v2, v3].drop 0).take (Tryd.prog.cellsOf 3)) = ys[0]? := hf 0 _ rfl
    have g1 : DataW.trod enc Tryd.prog W base spare held n 3 (([v0, v1, v2, v3].drop 1).take (Tryd.prog.cellsOf 3)) = ys[1]? := hf 1 _ rfl
    have g2 : DataW.trod enc Tryd.prog W base spare held n 3 (([v0, v1, v2, v3].drop 2).take (Tryd.prog.cellsOf 3)) = ys[2]? := hf 2 _ rfl
    have g3 : DataW.trod enc Tryd.prog W base spare held n 3 (([v0, v1, v2, v3].drop 3).take (Tryd.prog.cellsOf 3)) = ys[3]? := hf 3 _ rfl
    rw [cellsInt] at g0 g1 g2 g3
    have hyl : ys.length = 4 := hyl0
    obtain ⟨y0, e0⟩ : ∃ y, ys[0]? = some y := ⟨_, List.getElem?_eq_getElem (by omega)⟩
    obtain ⟨y1, e1⟩ : ∃ y, ys[1]? = some y := ⟨_, List.getElem?_eq_getElem (by omega)⟩
    obtain ⟨y2, e2⟩ : ∃ y, ys[2]? = some y := ⟨_, List.getElem?_eq_getElem (by omega)⟩
    obtain ⟨y3, e3⟩ : ∃ y, ys[3]? = some y := ⟨_, List.getElem?_eq_getElem (by omega)⟩
    obtain ⟨k0, h0, _, w0⟩ := DataW.trod_int Tryd.underlying3 (g0.trans e0)
    obtain ⟨k1, h1, _, w1⟩ := DataW.trod_int Tryd.underlying3 (g1.trans e1)
    obtain ⟨k2, h2, _, w2⟩ := DataW.trod_int Tryd.underlying3 (g2.trans e2)
    obtain ⟨k3, h3, _, w3⟩ := DataW.trod_int Tryd.underlying3 (g3.trans e3)
    simp at h0 h1 h2 h3
    subst h0 h1 h2 h3
    exact ⟨k0, k1, k2, k3, rfl, w1, w2⟩

/-! ### The row, and the card -/

abbrev laidRows : List (String × DataW Unit) := Rows.matchesPutRow.laid

theorem laid_met (os : Os) (args : Array Value) : laidMetH Tryd.prog laidRows ((World.laidAll Tryd.prog os laidRows).forCall (fun _ _ => 0) ⟨#[], args, []⟩).memory := by
  rw [MakeChecks.laidMetH_plain _ _ _ (by kernel_rfl)]
  exact laidMet_laidAll _ (by kernel_rfl) (by kernel_rfl)

set_option maxRecDepth 100000 in
theorem lifted (os : Os) (started : os.Started) (H : Type) (enc : TypeId × Value → H) :
    ReturnsInHanded {} Tryd.checked os 5 .any (fun w args => (Rows.matchesPutSpec.pre enc Tryd.prog Tryd.f5 [] false w args ∧ laidMetH Tryd.prog laidRows w) ∧ sizedMet enc Tryd.prog Tryd.f5 (OpenSpec.ofChange Rows.matchesPutSpec) false w args)
      (Rows.matchesPutSpec.post enc Tryd.prog Tryd.f5 false true false false) := by
  refine returnsInHanded_of_change_and (C := Tryd.checked) (X := fun w _ => laidMetH Tryd.prog laidRows w) (fun _ _ _ hh h => h.of_heap hh) own started (by kernel_rfl) Tryd.func5
    (ChangeSpec.witness_shaped (enc := enc) (C := Tryd.checked) (os := os) (X := fun w _ => laidMetH Tryd.prog laidRows w) false (World.laidAll Tryd.prog os laidRows) #[.agg #[.int .i64 0, .int .i64 0, .int .i64 0, .int .i64 0], .agg #[.int .i64 0, .int .i64 0, .int .i64 0, .int .i64 0]] 8 rfl (World.shaped_of_ZipB (by kernel_rfl) (by kernel_rfl)) (by kernel_rfl) (by kernel_rfl) (by kernel_rfl) (laid_met os _)) ?_
  intro W base args ds gs before hval0 hW _ hsz hL _
  have hval : ∀ (j : Nat) t v, Tryd.f5.params[j]? = some t → args[j]? = some v → Value.okWide Tryd.prog W .any base t v := hval0
  have hW' := hW
  obtain ⟨p, q, hA0, hV, rfl, hfz, hnd⟩ := hW
  have hA : DataW.TrodAll enc Tryd.prog W 0 (fun _ => true) true Tryd.f5.params.toList args.toList ds p := hA0
  rw [Tryd.params5] at hA hval
  obtain ⟨v0, vs0, d0, ds0, p0, q0, hargs, rfl, rfl, h0, r0⟩ := trodAll_cons hA
  obtain ⟨v1, vs1, d1, ds1, p1, q1, hargs1, rfl, rfl, h1, r1⟩ := trodAll_cons r0
  obtain ⟨rfl, rfl, rfl⟩ := trodAll_nil r1
  obtain rfl : args = #[v0, v1] := by cases args; simp_all
  obtain ⟨rfl, rfl⟩ := trodVars_none hV
  obtain ⟨cs0, rfl, _⟩ := okWide_struct Tryd.underlying30 (hval 0 30 v0 rfl rfl)
  have k0 := h0
  have lt0 : ∀ x ∈ p0, x.block < W.heap.size := by obtain ⟨m, hm⟩ := k0; exact DataW.trod_lt m _ _ _ hm
  obtain ⟨x0, y0, z0, u0, rfl, wy0, wz0⟩ : ∃ a b c d, cs0 = #[.int .i64 a, .int .i64 b, .int .i64 c, .int .i64 d] ∧ (Lit.int .i64 b).wf = true ∧ (Lit.int .i64 c).wf = true := by
    obtain ⟨fuel, hf⟩ := h0
    obtain ⟨a, b, c, d, hcs, wb, wc⟩ := raw_read fuel _ _ hf
    refine ⟨a, b, c, d, ?_, wb, wc⟩
    have : cs0.toList = [.int .i64 a, .int .i64 b, .int .i64 c, .int .i64 d] := hcs
    cases cs0; simp_all
  obtain ⟨cs1, rfl, _⟩ := okWide_struct Tryd.underlying30 (hval 1 30 v1 rfl rfl)
  have k1 := h1
  have lt1 : ∀ x ∈ p1, x.block < W.heap.size := by obtain ⟨m, hm⟩ := k1; exact DataW.trod_lt m _ _ _ hm
  obtain ⟨x1, y1, z1, u1, rfl, wy1, wz1⟩ : ∃ a b c d, cs1 = #[.int .i64 a, .int .i64 b, .int .i64 c, .int .i64 d] ∧ (Lit.int .i64 b).wf = true ∧ (Lit.int .i64 c).wf = true := by
    obtain ⟨fuel, hf⟩ := h1
    obtain ⟨a, b, c, d, hcs, wb, wc⟩ := raw_read fuel _ _ hf
    refine ⟨a, b, c, d, ?_, wb, wc⟩
    have : cs1.toList = [.int .i64 a, .int .i64 b, .int .i64 c, .int .i64 d] := hcs
    cases cs1; simp_all
  clear hA0 hval0 hsz hL
  refine (walk x0 y0 z0 u0 x1 y1 z1 u1 wy0 wz0 wy1 wz1 W).mono fun e W' ⟨he, bel⟩ => ?_
  subst he
  exact ⟨_, rfl, _, _, _, [], _, [], hW', trodAll_mk1 (shut_bool Tryd.underlying4 _), (trodAll_cons_mk (Below.trod laidOut (by kernel_rfl) (of_decide_eq_true (by kernel_rfl)) k0 bel lt0) (trodAll_cons_mk (Below.trod laidOut (by kernel_rfl) (of_decide_eq_true (by kernel_rfl)) k1 bel lt1) trodAll_mk0)), rfl, bel.frame _, fun h => by cases h⟩

theorem over : Rows.MatchesPutSaid :=
  OpenClaim.holds_of_wide 5 Tryd.f5 rfl rfl rfl rfl rfl rfl rfl ⟨rfl, rfl, rfl, rfl, rfl⟩ rfl rfl rfl rfl rfl (by kernel_rfl) Tryd.func5 (by kernel_rfl)
    (of_decide_eq_true (by kernel_rfl)) (by unfold Func.isWrapper; first | (rw [if_pos (by decide +kernel)]; kernel_rfl) | (rw [if_neg (by decide +kernel)]; exact ⟨rfl, rfl⟩))
    (fun os started H enc _ => lifted os started H enc)

theorem proved : Rows.MatchesPutCardSaid :=
  Claim7.holds_tied_plain_at .later [] [.data, .pinned] true (true, "cdc09ac5ea1bd729f749b6dd95dfdfef061550593b55dcd9af3cb044272d8c07") false
    over (fun _ h => by cases h) (by kernel_rfl) (fun _ h => by cases h) matchesPut_row_tie rfl ⟨rfl, rfl⟩ (by kernel_rfl) rfl
    (fun f fn hf hfn => by
      obtain rfl : f = 5 := Option.some.inj ((show Tryd.prog.funcNamed "scullery/scullerykeep.MatchesPut" = some 5 by kernel_rfl).symm.trans hf) |>.symm
      obtain rfl : fn = Tryd.f5 := (Option.some.inj (Tryd.func5.symm.trans hfn)).symm
      exact ⟨by kernel_rfl, fun j t ht => by
        rw [Tryd.params5] at ht
        have hm : t ∈ [30, 30] := by simpa using Array.mem_of_getElem? ht
        have hall : ([30, 30].all fun u => !Tryd.prog.wantsStandIn u) = true := by kernel_rfl
        exact (show Tryd.prog.wantsStandIn t = false by simpa using List.all_eq_true.1 hall t hm)⟩)
    (by kernel_rfl)
#print axioms proved
end Go.Proofs.YtpamadnckijfkadDoor.matchesPut
