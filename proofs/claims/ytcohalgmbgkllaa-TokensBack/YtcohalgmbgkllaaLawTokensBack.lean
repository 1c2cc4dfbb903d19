/- At every text and number: what token.Cut tells is shown by token.Show and cut again as it was, and blanks ahead of the text change nothing (TokensBack), without conditions. -/
import Derived.Test.YtcohalgmbgkllaaCut
import Derived.Test.YtcohalgmbgkllaaWide
import Derived.Test.YtcohalgmbgkllaaEqual
import Derived.Test.YtcohalgmbgkllaaPicked
import Derived.ProofKit
import Derived.OpenShut
import Derived.ShutString
import Derived.ChangeOld
namespace Go.Proofs.Ytcohalgmbgkllaa.tokensBack
open Go.ChangeShapes Go.WideShapes Go.ChangeAt Go.RowKit
open Go.ChangeMaps (open_string shut_string)

theorem own : ownKnob Try.prog.godebug = none := by kernel_rfl

set_option maxHeartbeats 4000000 in
set_option maxRecDepth 100000 in
theorem walk_bad (s : ByteArray) (n : Int) (h0 : cutErr s ≠ 0) (w : World) :
    Calls Try.prog 8 #[.string s, .int .i64 n] w fun e w' => e = .returned (.bool true) ∧ Below w.heap.size w w' := by
  have hne : (cutErr s != 0) = true := by simp [h0]
  have hl := cut_bad h0
  clear h0
  go_enter Try.func8, Try.ntmps8
  go_wp2_with fail
  refine (cut_all s _).mono ?_
  rintro e w1 ⟨v, rfl, hv, hb⟩
  rw [hl] at hv
  obtain ⟨a, cap, rfl⟩ := tokRow_form hv
  clear hv hl
  go_wp2
  go_ret
  exact ⟨rfl, hb⟩

set_option maxHeartbeats 8000000 in
set_option maxRecDepth 100000 in
theorem walk_good (s : ByteArray) (n : Int) (hn : (Lit.int .i64 n).wf = true) (h0 : cutErr s = 0) (w : World) :
    Calls Try.prog 8 #[.string s, .int .i64 n] w fun e w' => e = .returned (.bool true) ∧ Below w.heap.size w w' := by
  obtain ⟨hs, hc, h200, hval⟩ := cut_ok h0
  have hch : checkAll (cutToks s) = 0 := by unfold checkAll; rw [if_neg (by omega)]; exact faults_valid _ hval
  have hst : showText (cutToks s) = textOf (showTo (cutToks s) (cutToks s).length) := if_pos hch
  have hcb := cut_back (cutToks s) hval
  rw [← hst] at hcb
  have HCS := veil hc
  have HCB := veil hcb
  have H2 := veil h200
  have HP := veil (picked_any n hn 9 (by omega) (by omega))
  clear hc hval hst hcb hn
  go_enter Try.func8, Try.ntmps8
  go_wp2_with fail
  refine (cut_all s _).mono ?_
  rintro e w1 ⟨v1, rfl, hv1, hb1⟩
  rw [h0]
  generalize cutToks s = l at *
  clear h0
  have HV1 := veil hv1
  have HB1 := veil hb1
  clear hv1 hb1
  go_wp2_with fail
  refine (show_any v1 l _ HV1.out).mono ?_
  rintro e w2 ⟨rfl, hb2⟩
  rw [hch]
  generalize showText l = t at *
  have HV2 := veil (HV1.out.later hb2)
  have HB2 := veil (HB1.out.trans (hb2.mono HB1.out.size))
  clear HV1 HB1 hb2
  go_wp2_with fail
  refine (cut_all t _).mono ?_
  rintro e w3 ⟨v3, rfl, hv3, hb3⟩
  have HT3 := veil hv3
  have HV3 := veil (HV2.out.later hb3)
  have HB3 := veil (HB2.out.trans (hb3.mono HB2.out.size))
  clear HV2 HB2 hv3 hb3
  go_wp2_with fail
  refine (HP.out _).mono ?_
  rintro e w4 ⟨c, rfl, hc9, rfl⟩
  clear HP
  go_wp2_with fail
  refine (Try.strings_Repeat (ByteArray.mk #[32]) c _ (by omega) (by show 1 * c ≤ _; omega)).mono ?_
  rintro e w5 ⟨rfl, hb5⟩
  have HV5 := veil (HV3.out.later hb5)
  have HT5 := veil (HT3.out.later hb5)
  have HB5 := veil (HB3.out.trans (hb5.mono HB3.out.size))
  clear HV3 HT3 HB3 hb5
  have hrl : (ByteArray.mk (Lib.repeatL [32] c).toArray).size = c := repeat_length c
  have HRL := veil (@repeat_blanks c)
  have HRN := veil (repeat_length c)
  have hrs : (ByteArray.mk (Lib.repeatL [32] c).toArray).data.toList = Lib.repeatL [32] c := by simp
  have HRS := veil hrs
  clear hrs
  have e32 : (ByteArray.mk #[32]).data.toList = [32] := rfl
  rw [e32]
  clear e32
  have HAP : Hid ((ByteArray.mk (Lib.repeatL [32] c).toArray ++ s).data.toList = Lib.repeatL [32] c ++ s.data.toList) := by
    show _ = _
    simp [ByteArray.data_append]
  have hsz : (ByteArray.mk (Lib.repeatL [32] c).toArray ++ s).size = c + s.size := by rw [ByteArray.size_append, hrl]
  have HSZ := veil hsz
  clear hsz
  generalize ByteArray.mk (Lib.repeatL [32] c).toArray = R at *
  go_wp2_with fail
  refine (cut_all (R ++ s) _).mono ?_
  rintro e w6 ⟨v6, rfl, hv6, hb6⟩
  have HX6 := veil hv6
  have HV6 := veil (HV5.out.later hb6)
  have HT6 := veil (HT5.out.later hb6)
  have HB6 := veil (HB5.out.trans (hb6.mono HB5.out.size))
  clear HV5 HT5 HB5 hv6 hb6
  by_cases hA : (1500 : Int) < (s.size : Int) + 8
  · go_wp2
    go_ret
    exact ⟨rfl, HB6.out⟩
  by_cases hB : (1500 : Int) < (t.size : Int)
  · go_wp2
    go_ret
    exact ⟨rfl, HB6.out⟩
  obtain ⟨e3, t3⟩ := cut_mk (s := t) (by omega) HCB.out H2.out
  obtain ⟨e6, t6⟩ := cut_mk (s := R ++ s) (by have := HSZ.out; omega) ((cut_wide HAP.out HRL.out).trans HCS.out) H2.out
  rw [e3, e6]
  rw [t3] at HT6
  rw [t6] at HX6
  clear e3 t3 e6 t6 HCS HCB H2 HAP HRL HRN HRS HSZ
  go_wp2_with fail
  refine (cut_all _ _).mono ?_
  rintro e w7 ⟨v7, rfl, hv7, hb7⟩
  obtain ⟨a7, cap7, h7⟩ := tokRow_form hv7
  rw [cut_three] at h7
  rw [h7]
  have HX7 := veil (HX6.out.later hb7)
  have HV7 := veil (HV6.out.later hb7)
  have HT7 := veil (HT6.out.later hb7)
  have HB7 := veil (HB6.out.trans (hb7.mono HB6.out.size))
  clear HX6 HV6 HT6 HB6 hv7 hb7 h7
  go_wp2_with fail
  refine (equal_any v1 v3 l _ HV7.out HT7.out).mono ?_
  rintro e w8 ⟨rfl, hb8⟩
  have HX8 := veil (HX7.out.later hb8)
  have HV8 := veil (HV7.out.later hb8)
  have HB8 := veil (HB7.out.trans (hb8.mono HB7.out.size))
  clear HX7 HV7 HT7 HB7 hb8
  go_wp2_with fail
  refine (equal_any v1 v6 l _ HV8.out HX8.out).mono ?_
  rintro e w9 ⟨rfl, hb9⟩
  have HV9 := veil (HV8.out.later hb9)
  have HB9 := veil (HB8.out.trans (hb9.mono HB8.out.size))
  clear HX8 HV8 HB8 hb9
  go_wp2_with fail
  refine (check_any v1 l _ HV9.out).mono ?_
  rintro e w10 ⟨rfl, hb10⟩
  rw [hch]
  have HB10 := veil (HB9.out.trans (hb10.mono HB9.out.size))
  clear HV9 HB9 hb10
  go_wp2
  go_ret
  exact ⟨rfl, HB10.out⟩

theorem walk (a0 : ByteArray) (a1 : Int) (w1 : (Lit.int .i64 a1).wf = true) (w : World) :
    Calls Try.prog 8 #[.string a0, .int .i64 a1] w fun e w' => e = .returned (.bool true) ∧ Below w.heap.size w w' := by
  by_cases h : cutErr a0 = 0
  · exact walk_good a0 a1 w1 h w
  · exact walk_bad a0 a1 h w

set_option maxRecDepth 100000 in
theorem lifted (os : Os) (started : os.Started) (H : Type) (enc : TypeId × Value → H) :
    ReturnsInHanded {} Try.checked os 8 .any (Rows.tokensBackSpec.pre6 enc Try.prog Try.f8 Rows.tokensBackRow.domain false) (Rows.tokensBackSpec.post enc Try.prog Try.f8 false true false false) := by
  refine returnsInHanded_of_change (C := Try.checked) own started (by kernel_rfl) Try.func8
    (ChangeSpec.witness6 (enc := enc) (C := Try.checked) false ⟨#[], #[.string ByteArray.empty, .int .i64 0], []⟩ 8 (by kernel_rfl) (by kernel_rfl) (by kernel_rfl) (by kernel_rfl)) ?_
  intro W base args ds gs before hval0 hW hcnd _
  have hval : ∀ (j : Nat) t v, Try.f8.params[j]? = some t → args[j]? = some v → Value.okWide Try.prog W .any base t v := hval0
  have hW' := hW
  obtain ⟨p, q, hA0, hV, rfl, hfz, hnd⟩ := hW
  have hA : DataW.TrodAll enc Try.prog W 0 (fun _ => true) true Try.f8.params.toList args.toList ds p := hA0
  rw [Try.params8] at hA hval
  obtain ⟨v0, vs0, d0, ds0, p0, q0, hargs, rfl, rfl, h0, r0⟩ := trodAll_cons hA
  obtain ⟨v1, vs1, d1, ds1, p1, q1, rfl, rfl, rfl, h1, r1⟩ := trodAll_cons r0
  obtain ⟨rfl, rfl, rfl⟩ := trodAll_nil r1
  obtain rfl : args = #[v0, v1] := by cases args; simp_all
  obtain ⟨rfl, rfl⟩ := trodVars_none hV
  obtain ⟨a0, rfl, rfl, rfl, w0⟩ := open_string Try.underlying9 (hval 0 9 v0 rfl rfl) h0
  obtain ⟨a1, rfl, rfl, rfl, w1⟩ := open_int Try.underlying3 (hval 1 3 v1 rfl rfl) h1
  clear hA0 hval0
  simp only [List.append_nil] at hW'
  refine (walk a0 a1 w1 W).mono fun e W' ⟨he, hg⟩ => ?_
  subst he
  refine ⟨_, rfl, _, _, _, [], [], [], hW', ?_, ?_, ?_, hg.frame _, fun h => by cases h⟩
  · exact trodAll_cons_mk (shut_bool Try.underlying4 _) trodAll_mk0
  · exact trodAll_cons_mk (shut_string Try.underlying9 w0) (trodAll_cons_mk (shut_int Try.underlying3 w1) trodAll_mk0)
  · rfl

theorem over : Rows.tokensBackRow.holds Try.pinned (OpenSpec.ofChange Rows.tokensBackSpec) :=
  OpenClaim.holds_of_wide 8 Try.f8 rfl rfl rfl rfl rfl rfl rfl ⟨rfl, rfl, rfl, rfl, rfl⟩ rfl rfl rfl rfl rfl (by kernel_rfl) Try.func8 (by kernel_rfl)
    (of_decide_eq_true (by kernel_rfl)) (by unfold Func.isWrapper; first | (rw [if_pos (by decide +kernel)]; kernel_rfl) | (rw [if_neg (by decide +kernel)]; exact ⟨rfl, rfl⟩))
    (fun os started H enc _ => lifted os started H enc)

theorem proved : Rows.TokensBackSaid :=
  over
#print axioms proved
end Go.Proofs.Ytcohalgmbgkllaa.tokensBack
