/- Of every raw thing: the kind that is made of it may be, its list is of what it was made of, and what is none is refused (KindsBack), without conditions. -/
import Derived.Test.YtmgoabkopacnaacKindBack0
import Derived.Test.YtmgoabkopacnaacKindBack1
import Derived.Test.YtmgoabkopacnaacKindBack2
import Derived.Deep.Slices
import Derived.ProofKit
import Derived.OpenShut
import Derived.ShutString
import Derived.ChangeOld
namespace Go.Proofs.Ytmgoabkopacnaac.kindsBack
open Go.ChangeShapes Go.WideShapes Go.ChangeAt Go.RowKit

theorem own : ownKnob Try.prog.godebug = none := by kernel_rfl

theorem rep_size (b : UInt8) (n : Nat) : (⟨(Lib.repeatL [b] n).toArray⟩ : ByteArray).size = n := by
  show (Lib.repeatL [b] n).toArray.size = n
  rw [List.size_toArray]
  induction n with
  | zero => rfl
  | succ k ih => simp [Lib.repeatL] at ih ⊢; try omega

theorem kindOf (x y z u : Int) (hy : (Lit.int .i64 y).wf = true) (hz : (Lit.int .i64 z).wf = true) (w : World) :
    ∃ s, GoodK s ∧ Calls Try.prog 16 #[.agg #[.int .i64 x, .int .i64 y, .int .i64 z, .int .i64 u]] w fun e w' => e = .returned (.string s) ∧ Below w.heap.size w w' := by
  obtain ⟨n, hn, hpy⟩ := picked_fix y hy 4 (by omega) (by omega)
  obtain ⟨j, hj, hpz⟩ := picked_fix z hz 3 (by omega) (by omega)
  have hn' : n < 4 := by omega
  have hj' : j < 3 := by omega
  refine ⟨kText n j, kText_good n hn' j hj', ?_⟩
  have hO : ∀ w : World, Calls Try.prog 17 #[.string ⟨#[91]⟩, .int .i64 n] w fun e w' => e = .returned (.string (openK n)) ∧ Below w.heap.size w w' :=
    fun w => Try.strings_Repeat ⟨#[91]⟩ n w (by omega) (by show 1 * n ≤ _; omega)
  have hP : ∀ w : World, Calls Try.prog 17 #[.string ⟨#[93]⟩, .int .i64 n] w fun e w' => e = .returned (.string (shutK n)) ∧ Below w.heap.size w w' :=
    fun w => Try.strings_Repeat ⟨#[93]⟩ n w (by omega) (by show 1 * n ≤ _; omega)
  have so : (openK n).size ≤ 3 := by unfold openK; rw [rep_size]; omega
  have sp : (shutK n).size ≤ 3 := by unfold shutK; rw [rep_size]; omega
  unfold kText
  obtain rfl | rfl | rfl : j = 0 ∨ j = 1 ∨ j = 2 := by omega
  · exact kindOf_walk0 x y z u n _ _ so sp hO hP hpy hpz w
  · exact kindOf_walk1 x y z u n _ _ so sp hO hP hpy hpz w
  · exact kindOf_walk2 x y z u n _ _ so sp hO hP hpy hpz w

set_option maxHeartbeats 8000000 in
set_option maxRecDepth 100000 in
theorem walk (x y z u : Int) (hy : (Lit.int .i64 y).wf = true) (hz : (Lit.int .i64 z).wf = true) (w : World) :
    Calls Try.prog 7 #[.agg #[.int .i64 x, .int .i64 y, .int .i64 z, .int .i64 u]] w fun e w' => e = .returned (.bool true) ∧ Below w.heap.size w w' := by
  have HKO := veilK (fun w => kindOf x y z u hy hz w)
  clear hy hz
  go_enter Try.func7, Try.ntmps7
  go_wp2_with fail
  obtain ⟨s, hs, hc⟩ := HKO.out (w.alloc (.cells #[.int .i64 x, .int .i64 y, .int .i64 z, .int .i64 u] 30))
  have HS := veilK hs
  refine hc.mono ?_
  clear hc hs HKO
  rintro e w1 ⟨rfl, hb1⟩
  have HB1 : Hid (Below w.heap.size w w1) := ((Below.refl _ _).alloc (Nat.le_refl _) _).trans (hb1.mono (by simp))
  clear hb1
  have hz := HS.out.size
  have hm : s.size ≤ maxLen := by unfold maxLen; omega
  go_wp2_with fail
  refine (listOf_good (by unfold listErr; rw [if_pos HS.out.good, if_neg (by omega)]) _).mono ?_
  rintro e w2 ⟨rfl, rfl⟩
  have zw : (wrapK s).size ≤ 12 := by
    unfold wrapK; rw [ByteArray.size_append, ByteArray.size_append]
    have e1 : (⟨#[91]⟩ : ByteArray).size = 1 := rfl
    have e2 : (⟨#[93]⟩ : ByteArray).size = 1 := rfl
    omega
  have HZW := veilK zw
  clear zw
  have HOV : Hid (∀ t, t = wrapK s → hasVar t = hasVar s) := by rintro t rfl; exact HS.out.var
  have HEL : Hid (∀ w, Calls Try.prog 8 #[.string (wrapK s)] w fun e w' => e = .returned (.tuple #[.string s, .bool true]) ∧ Below w.heap.size w w') := by
    intro w
    have := elem_list (by have := HZW.out; omega) HS.out.isl w
    rwa [HS.out.inn] at this
  have HOW := veilK (HOV.out _ rfl)
  clear HOV
  generalize wrapK s = t at *
  go_wp2_with fail
  refine (HEL.out _).mono ?_
  rintro e w3 ⟨rfl, hb3⟩
  have HB3 : Hid (Below w.heap.size w w3) := HB1.out.trans (hb3.mono HB1.out.size)
  clear hb3 HB1 HEL
  go_wp2_with fail
  refine (check_kind s hm _).mono ?_
  rintro e w4 ⟨rfl, rfl⟩
  rw [HS.out.good]
  have hq : (s.toList == s.toList) = true := by simp
  go_wp2_with fail
  refine (open_any t _).mono ?_
  rintro e w5 ⟨rfl, rfl⟩
  rw [HOW.out]
  clear HOW
  go_wp2_with fail
  refine (open_any s _).mono ?_
  rintro e w6 ⟨rfl, rfl⟩
  have hv : (hasVar s == hasVar s) = true := by simp
  generalize hasVar s = v at *
  have HPos : Hid (0 < s.size) := by
    show 0 < s.size
    rcases Nat.eq_zero_or_pos s.size with h | h
    · exfalso
      have hg := HS.out.isl
      have h2 := isList_size hg
      unfold wrapK at h2
      rw [ByteArray.size_append, ByteArray.size_append, h] at h2
      exact absurd h2 (by decide)
    · exact h
  have hlim1 : ¬ 9223372036854775807 < 1 + s.size := by omega
  have hlim2 : ¬ 9223372036854775807 < s.size + 1 := by omega
  have hlim3 : ¬ 9223372036854775807 < 600 + s.size := by omega
  go_wp2_with fail
  refine (check_kind _ (by rw [ByteArray.size_append]; show 1 + s.size ≤ _; unfold maxLen; omega) _).mono ?_
  rintro e w7 ⟨rfl, rfl⟩
  rw [HS.out.pre]
  go_wp2_with fail
  refine (check_kind _ (by rw [ByteArray.size_append]; show s.size + 1 ≤ _; unfold maxLen; omega) _).mono ?_
  rintro e w8 ⟨rfl, rfl⟩
  rw [HS.out.suf]
  go_wp2_with fail
  refine (Try.strings_Repeat ⟨#[91]⟩ 600 _ (by omega) (by show 1 * 600 ≤ _; omega)).mono ?_
  rintro e w9 ⟨rfl, hb9⟩
  have HB9 : Hid (Below w.heap.size w w9) := HB3.out.trans (hb9.mono HB3.out.size)
  clear hb9 HB3
  have HR := veilK (rep_size 91 600)
  have e91 : (⟨#[91]⟩ : ByteArray).data.toList = [91] := rfl
  rw [e91]
  have hR : (⟨(Lib.repeatL [91] 600).toArray⟩ : ByteArray).size = 600 := rep_size 91 600
  clear e91 HR
  generalize (⟨(Lib.repeatL [91] 600).toArray⟩ : ByteArray) = R at *
  go_wp2_with fail
  refine (check_kind (R ++ s) (by rw [ByteArray.size_append, hR]; unfold maxLen; omega) _).mono ?_
  rintro e w10 ⟨rfl, rfl⟩
  have hk : kindErr (R ++ s) = 1 := by
    unfold kindErr
    rw [if_pos]
    rw [ByteArray.size_append, hR]
    have := HPos.out
    omega
  rw [hk]
  clear hk
  go_wp2
  go_ret
  exact ⟨rfl, HB9.out⟩

theorem cellsRaw : Try.prog.cellsOf 30 = 4 := by kernel_rfl
theorem cellsInt : Try.prog.cellsOf 3 = 1 := by kernel_rfl
theorem laidOut : laidOutB Try.prog = true := by kernel_rfl

theorem raw_read {H : Type} {enc : TypeId × Value → H} {W : World} {base : Nat} {spare : Nat → Bool} {held : Bool} (fuel : Nat) (cs : List Value) (x : DataW H × List MemPlace) (h : DataW.trod enc Try.prog W base spare held fuel 30 cs = some x) :
    ∃ a b c d, cs = [.int .i64 a, .int .i64 b, .int .i64 c, .int .i64 d] ∧ (Lit.int .i64 b).wf = true ∧ (Lit.int .i64 c).wf = true := by
  obtain ⟨ys, n, _, _, hlen, hyl0, hf⟩ := DataW.trod_struct Try.underlying30 h
  rw [cellsRaw] at hlen
  match cs, hlen with
  | [v0, v1, v2, v3], _ =>
    have g0 : DataW.trod enc Try.prog W base spare held n 3 (([v0, v1, v2, v3].drop 0).take (Try.prog.cellsOf 3)) = ys[0]? := hf 0 _ rfl
    have g1 : DataW.trod enc Try.prog W base spare held n 3 (([v0, v1, v2, v3].drop 1).take (Try.prog.cellsOf 3)) = ys[1]? := hf 1 _ rfl
    have g2 : DataW.trod enc Try.prog W base spare held n 3 (([v0, v1, v2, v3].drop 2).take (Try.prog.cellsOf 3)) = ys[2]? := hf 2 _ rfl
    have g3 : DataW.trod enc Try.prog W base spare held n 3 (([v0, v1, v2, v3].drop 3).take (Try.prog.cellsOf 3)) = ys[3]? := hf 3 _ rfl
    rw [cellsInt] at g0 g1 g2 g3
    have hyl : ys.length = 4 := hyl0
    obtain ⟨y0, e0⟩ : ∃ y, ys[0]? = some y := ⟨_, List.getElem?_eq_getElem (by omega)⟩
    obtain ⟨y1, e1⟩ : ∃ y, ys[1]? = some y := ⟨_, List.getElem?_eq_getElem (by omega)⟩
    obtain ⟨y2, e2⟩ : ∃ y, ys[2]? = some y := ⟨_, List.getElem?_eq_getElem (by omega)⟩
    obtain ⟨y3, e3⟩ : ∃ y, ys[3]? = some y := ⟨_, List.getElem?_eq_getElem (by omega)⟩
    obtain ⟨k0, h0, _, w0⟩ := DataW.trod_int Try.underlying3 (g0.trans e0)
    obtain ⟨k1, h1, _, w1⟩ := DataW.trod_int Try.underlying3 (g1.trans e1)
    obtain ⟨k2, h2, _, w2⟩ := DataW.trod_int Try.underlying3 (g2.trans e2)
    obtain ⟨k3, h3, _, w3⟩ := DataW.trod_int Try.underlying3 (g3.trans e3)
    simp at h0 h1 h2 h3
    subst h0 h1 h2 h3
    exact ⟨k0, k1, k2, k3, rfl, w1, w2⟩

set_option maxRecDepth 100000 in
theorem lifted (os : Os) (started : os.Started) (H : Type) (enc : TypeId × Value → H) :
    ReturnsInHanded {} Try.checked os 7 .any (Rows.kindsBackSpec.pre6 enc Try.prog Try.f7 Rows.kindsBackRow.domain false) (Rows.kindsBackSpec.post enc Try.prog Try.f7 false true false false) := by
  refine returnsInHanded_of_change (C := Try.checked) own started (by kernel_rfl) Try.func7
    (ChangeSpec.witness6 (enc := enc) (C := Try.checked) false ⟨#[], #[.agg #[.int .i64 0, .int .i64 0, .int .i64 0, .int .i64 0]], []⟩ 8 (by kernel_rfl) (by kernel_rfl) (by kernel_rfl) (by kernel_rfl)) ?_
  intro W base args ds gs before hval0 hW hcnd _
  have hval : ∀ (j : Nat) t v, Try.f7.params[j]? = some t → args[j]? = some v → Value.okWide Try.prog W .any base t v := hval0
  have hW' := hW
  obtain ⟨p, q, hA0, hV, rfl, hfz, hnd⟩ := hW
  have hA : DataW.TrodAll enc Try.prog W 0 (fun _ => true) true Try.f7.params.toList args.toList ds p := hA0
  rw [Try.params7] at hA hval
  obtain ⟨v0, vs0, d0, ds0, p0, q0, hargs, rfl, rfl, h0, r0⟩ := trodAll_cons hA
  obtain ⟨rfl, rfl, rfl⟩ := trodAll_nil r0
  obtain rfl : args = #[v0] := by cases args; simp_all
  obtain ⟨rfl, rfl⟩ := trodVars_none hV
  obtain ⟨cs0, rfl, _⟩ := okWide_struct Try.underlying30 (hval 0 30 v0 rfl rfl)
  have k0 := h0
  have lt0 : ∀ x ∈ p0, x.block < W.heap.size := by obtain ⟨m, hm⟩ := k0; exact DataW.trod_lt m _ _ _ hm
  obtain ⟨a, b, c, d, rfl, wb, wc⟩ : ∃ a b c d, cs0 = #[.int .i64 a, .int .i64 b, .int .i64 c, .int .i64 d] ∧ (Lit.int .i64 b).wf = true ∧ (Lit.int .i64 c).wf = true := by
    obtain ⟨fuel, hf⟩ := h0
    obtain ⟨a, b, c, d, hcs, wb, wc⟩ := raw_read fuel _ _ hf
    refine ⟨a, b, c, d, ?_, wb, wc⟩
    have : cs0.toList = [.int .i64 a, .int .i64 b, .int .i64 c, .int .i64 d] := hcs
    cases cs0; simp_all
  clear hA0 hval0
  refine (walk a b c d wb wc W).mono fun e W' ⟨he, bel⟩ => ?_
  subst he
  exact ⟨_, rfl, _, _, _, [], _, [], hW', trodAll_mk1 (shut_bool Try.underlying4 _), (trodAll_cons_mk (Below.trod laidOut (by kernel_rfl) (of_decide_eq_true (by kernel_rfl)) k0 bel lt0) trodAll_mk0), rfl, bel.frame _, fun h => by cases h⟩

theorem over : Rows.kindsBackRow.holds Try.pinned (OpenSpec.ofChange Rows.kindsBackSpec) :=
  OpenClaim.holds_of_wide 7 Try.f7 rfl rfl rfl rfl rfl rfl rfl ⟨rfl, rfl, rfl, rfl, rfl⟩ rfl rfl rfl rfl rfl (by kernel_rfl) Try.func7 (by kernel_rfl)
    (of_decide_eq_true (by kernel_rfl)) (by unfold Func.isWrapper; first | (rw [if_pos (by decide +kernel)]; kernel_rfl) | (rw [if_neg (by decide +kernel)]; exact ⟨rfl, rfl⟩))
    (fun os started H enc _ => lifted os started H enc)

theorem proved : Rows.KindsBackSaid :=
  over
#print axioms proved
end Go.Proofs.Ytmgoabkopacnaac.kindsBack
