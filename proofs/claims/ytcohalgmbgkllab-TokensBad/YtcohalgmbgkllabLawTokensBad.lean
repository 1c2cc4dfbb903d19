/- At every two numbers: each of ten texts that are no tokens, a text that is too long, one of too many tokens, and a token of no kind are refused as the document says (TokensBad), without conditions. -/
import Derived.Test.YtcohalgmbgkllabCut
import Derived.Test.YtcohalgmbgkllabWide
import Derived.Test.YtcohalgmbgkllabPicked
import Derived.ProofKit
import Derived.OpenShut
import Derived.ChangeOld
namespace Go.Proofs.Ytcohalgmbgkllab.tokensBad
open Go.ChangeShapes Go.WideShapes Go.ChangeAt Go.RowKit

theorem own : ownKnob Try.prog.godebug = none := by kernel_rfl

theorem commas (T : ByteArray) (hT : ∀ i, i < T.size → T.data.toList.getD i 0 = 44) : ∀ d i, i + d = T.size → cutAt T i = some (List.replicate d (4, ByteArray.mk #[44]))
  | 0, i, h => by rw [cutAt_past (by omega)]; rfl
  | d + 1, i, h => by
    have hb : byteAt T i = 44 := by unfold byteAt; rw [hT i (by omega)]; rfl
    have hx : T.extract i (i + 1) = ByteArray.mk #[44] := by
      apply ba_ext
      have hl : i < T.data.toList.length := by rw [← Lib.size_eq]; omega
      rw [Lib.extract_data, show i + 1 - i = 1 by omega, List.drop_eq_getElem_cons hl]
      have e := hT i (by omega)
      rw [List.getD_eq_getElem?_getD, List.getElem?_eq_getElem hl] at e
      simpa using e
    have hn : nextTok T i = some ((4, ByteArray.mk #[44]), i + 1) := by
      unfold nextTok
      rw [hb, if_neg (by decide), if_neg (by decide), if_neg (by decide), hx]
    rw [cutAt_good (by omega) (by rw [hb]; decide) hn (by decide +kernel), commas T hT d (i + 1) (by omega)]
    rfl

theorem repeat_same (b : UInt8) : ∀ c i, i < (Lib.repeatL [b] c).length → (Lib.repeatL [b] c).getD i 0 = b
  | 0, i, h => by simp [Lib.repeatL] at h
  | c + 1, i, h => by
    cases i with
    | zero => simp [Lib.repeatL]
    | succ i => simpa [Lib.repeatL] using repeat_same b c i (by simpa [Lib.repeatL] using h)
theorem repeat_many (b : UInt8) : ∀ c, (Lib.repeatL [b] c).length = c
  | 0 => by simp [Lib.repeatL]
  | c + 1 => by simp [Lib.repeatL, repeat_many b c]

theorem err_long (c : Nat) (h : 1500 < c) : cutErr (ByteArray.mk (Lib.repeatL [120] c).toArray) = 1 := by
  have hs : (ByteArray.mk (Lib.repeatL [120] c).toArray).size = c := repeat_many 120 c
  unfold cutErr
  rw [if_pos (by omega)]

theorem err_many (c : Nat) (h : 200 < c) (h' : c ≤ 1500) : cutErr (ByteArray.mk (Lib.repeatL [44] c).toArray) = 1 := by
  have hs : (ByteArray.mk (Lib.repeatL [44] c).toArray).size = c := repeat_many 44 c
  have hc := commas (ByteArray.mk (Lib.repeatL [44] c).toArray) (fun i hi => repeat_same 44 c i (by rw [repeat_many]; omega)) c 0 (by omega)
  unfold cutErr
  rw [if_neg (by omega), hc]
  exact if_pos (by simpa using h)

def odd : List ByteArray := [⟨#[65]⟩, ⟨#[34, 110, 111, 32, 101, 110, 100]⟩, ⟨#[49, 97]⟩, ⟨#[48, 49]⟩, ⟨#[49, 48, 48, 48, 48, 48, 48]⟩, ⟨#[110, 105, 110, 101, 99, 104, 97, 114, 115]⟩, ⟨#[97, 45, 98]⟩, ⟨#[92]⟩, ⟨#[9]⟩, ⟨#[34]⟩ ++ ⟨(Lib.repeatL [120] 21).toArray⟩ ++ ⟨#[34]⟩]

theorem err_odd : ∀ t ∈ odd, cutErr t = 4 := by decide +kernel

theorem odd_at (k : Nat) (hk : (k : Int) < 10) : ∃ t, (odd.map Value.string)[k]? = some (.string t) ∧ cutErr t = 4 := by
  have hl : k < odd.length := by show k < 10; omega
  refine ⟨odd[k], ?_, err_odd _ (List.getElem_mem hl)⟩
  rw [List.getElem?_map, List.getElem?_eq_getElem hl]
  rfl

theorem tokRow_one (W : World) (kd : Int) (tx : ByteArray) (htx : tx.size ≤ maxLen) {n : Nat} (hn : n = W.heap.size) : TokRow (W.alloc (.cells #[.int .i64 kd, .string tx] 32)) (.slice (some ⟨n, 0, none⟩) 1 1) [(kd, tx)] := by
  refine Or.inr ⟨n, 0, 1, rfl, by simp; omega, by unfold maxLen; simp, fun i hi => ?_⟩
  have hi0 : i = 0 := by simpa using hi
  subst hi0
  refine ⟨?_, ?_, htx⟩
  · rw [World.cell?_alloc_at _ _ _ _ hn]; rfl
  · rw [World.cell?_alloc_at _ _ _ _ hn]; rfl

set_option maxHeartbeats 4000000 in
set_option maxRecDepth 100000 in
theorem walk (a b : Int) (ha : (Lit.int .i64 a).wf = true) (hb : (Lit.int .i64 b).wf = true) (w : World) :
    Calls Try.prog 3 #[.int .i64 a, .int .i64 b] w fun e w' => e = .returned (.bool true) ∧ Below w.heap.size w w' := by
  have HA := veil (picked_any a ha 10 (by omega) (by omega))
  have HB := veil (picked_any b hb 9 (by omega) (by omega))
  clear ha hb
  go_enter Try.func3, Try.ntmps3
  go_wp2_with fail
  refine (Try.strings_Repeat (ByteArray.mk #[120]) 21 _ (by omega) (by show 1 * 21 ≤ _; omega)).mono ?_
  rintro e w1 ⟨rfl, hb1⟩
  have HB1 := veil hb1
  clear hb1
  have e120 : (ByteArray.mk #[120]).data.toList = [120] := rfl
  rw [e120]
  clear e120
  have hx : (ByteArray.mk (Lib.repeatL [120] 21).toArray).size = 21 := repeat_many 120 21
  have HO : Hid (odd = [⟨#[65]⟩, ⟨#[34, 110, 111, 32, 101, 110, 100]⟩, ⟨#[49, 97]⟩, ⟨#[48, 49]⟩, ⟨#[49, 48, 48, 48, 48, 48, 48]⟩, ⟨#[110, 105, 110, 101, 99, 104, 97, 114, 115]⟩, ⟨#[97, 45, 98]⟩, ⟨#[92]⟩, ⟨#[9]⟩, ⟨#[34]⟩ ++ ⟨(Lib.repeatL [120] 21).toArray⟩ ++ ⟨#[34]⟩]) := rfl
  generalize ByteArray.mk (Lib.repeatL [120] 21).toArray = X at *
  go_wp2_with fail
  refine (HA.out _).mono ?_
  rintro e w2 ⟨k, rfl, hk, rfl⟩
  clear HA
  have hod := odd_at k hk
  rw [HO.out] at hod
  simp only [List.map_cons, List.map_nil] at hod
  obtain ⟨t, ht, h4⟩ := hod
  clear HO
  go_wp2_with fail
  refine (cut_all t _).mono ?_
  rintro e w3 ⟨v3, rfl, _, hb3⟩
  rw [h4]
  have HB3 := veil ((HB1.out.alloc HB1.out.size _).trans (hb3.mono (by have := HB1.out.size; simp; omega)))
  clear HB1 hb3 ht h4 hk
  go_wp2_with fail
  refine (HB.out _).mono ?_
  rintro e w4 ⟨c, rfl, hc, rfl⟩
  have hR := Try.strings_Repeat (ByteArray.mk #[120]) (1501 + c) w3 (by omega) (by show 1 * (1501 + c) ≤ _; omega)
  rw [show ((1501 + c : Nat) : Int) = 1501 + (c : Int) from by omega, show (ByteArray.mk #[120]).data.toList = [120] from rfl] at hR
  have h1 := err_long (1501 + c) (by omega)
  go_wp2_with fail
  refine hR.mono ?_
  rintro e w5 ⟨rfl, hb5⟩
  have HB5 := veil (HB3.out.trans (hb5.mono HB3.out.size))
  clear HB3 hb5 hR
  generalize ByteArray.mk (Lib.repeatL [120] (1501 + c)).toArray = Y at *
  go_wp2_with fail
  refine (cut_all Y _).mono ?_
  rintro e w6 ⟨v6, rfl, _, hb6⟩
  rw [h1]
  have HB6 := veil (HB5.out.trans (hb6.mono HB5.out.size))
  clear HB5 hb6 h1 hc
  go_wp2_with fail
  refine (HB.out _).mono ?_
  rintro e w7 ⟨d, rfl, hd, rfl⟩
  have hR := Try.strings_Repeat (ByteArray.mk #[44]) (201 + d) w6 (by omega) (by show 1 * (201 + d) ≤ _; omega)
  rw [show ((201 + d : Nat) : Int) = 201 + (d : Int) from by omega, show (ByteArray.mk #[44]).data.toList = [44] from rfl] at hR
  have h1 := err_many (201 + d) (by omega) (by omega)
  go_wp2_with fail
  refine hR.mono ?_
  rintro e w8 ⟨rfl, hb8⟩
  have HB8 := veil (HB6.out.trans (hb8.mono HB6.out.size))
  clear HB6 hb8 hR
  generalize ByteArray.mk (Lib.repeatL [44] (201 + d)).toArray = Z at *
  go_wp2_with fail
  refine (cut_all Z _).mono ?_
  rintro e w9 ⟨v9, rfl, _, hb9⟩
  rw [h1]
  have HB9 := veil (HB8.out.trans (hb9.mono HB8.out.size))
  clear HB8 hb9 h1 hd
  go_wp2_with fail
  refine (HB.out _).mono ?_
  rintro e w10 ⟨f, rfl, hf, rfl⟩
  clear HB
  have h3 : checkAll [(5 + (f : Int), ByteArray.mk #[])] = 3 := by
    have hk : tokFault (5 + (f : Int)) (ByteArray.mk #[]) = 3 := by simp [tokFault]; omega
    simp [checkAll, faults, faultOf, hk]
  go_wp2_with fail
  refine (show_any _ [(5 + (f : Int), ByteArray.mk #[])] _ (tokRow_one _ _ _ (by unfold maxLen; exact Nat.zero_le _) rfl)).mono ?_
  rintro e w11 ⟨rfl, hb11⟩
  rw [h3]
  have HB11 := veil ((HB9.out.alloc HB9.out.size _).trans (hb11.mono (by have := HB9.out.size; simp; omega)))
  clear HB9 hb11 h3 hf
  go_wp2
  go_ret
  exact ⟨rfl, HB11.out⟩

set_option maxRecDepth 100000 in
theorem lifted (os : Os) (started : os.Started) (H : Type) (enc : TypeId × Value → H) :
    ReturnsInHanded {} Try.checked os 3 .any (Rows.tokensBadSpec.pre6 enc Try.prog Try.f3 Rows.tokensBadRow.domain false) (Rows.tokensBadSpec.post enc Try.prog Try.f3 false true false false) := by
  refine returnsInHanded_of_change (C := Try.checked) own started (by kernel_rfl) Try.func3
    (ChangeSpec.witness6 (enc := enc) (C := Try.checked) false ⟨#[], #[.int .i64 0, .int .i64 0], []⟩ 8 (by kernel_rfl) (by kernel_rfl) (by kernel_rfl) (by kernel_rfl)) ?_
  intro W base args ds gs before hval0 hW hcnd _
  have hval : ∀ (j : Nat) t v, Try.f3.params[j]? = some t → args[j]? = some v → Value.okWide Try.prog W .any base t v := hval0
  have hW' := hW
  obtain ⟨p, q, hA0, hV, rfl, hfz, hnd⟩ := hW
  have hA : DataW.TrodAll enc Try.prog W 0 (fun _ => true) true Try.f3.params.toList args.toList ds p := hA0
  rw [Try.params3] at hA hval
  obtain ⟨v0, vs0, d0, ds0, p0, q0, hargs, rfl, rfl, h0, r0⟩ := trodAll_cons hA
  obtain ⟨v1, vs1, d1, ds1, p1, q1, rfl, rfl, rfl, h1, r1⟩ := trodAll_cons r0
  obtain ⟨rfl, rfl, rfl⟩ := trodAll_nil r1
  obtain rfl : args = #[v0, v1] := by cases args; simp_all
  obtain ⟨rfl, rfl⟩ := trodVars_none hV
  obtain ⟨a0, rfl, rfl, rfl, w0⟩ := open_int Try.underlying3 (hval 0 3 v0 rfl rfl) h0
  obtain ⟨a1, rfl, rfl, rfl, w1⟩ := open_int Try.underlying3 (hval 1 3 v1 rfl rfl) h1
  clear hA0 hval0
  simp only [List.append_nil] at hW'
  refine (walk a0 a1 w0 w1 W).mono fun e W' ⟨he, hg⟩ => ?_
  subst he
  refine ⟨_, rfl, _, _, _, [], [], [], hW', ?_, ?_, ?_, hg.frame _, fun h => by cases h⟩
  · exact trodAll_cons_mk (shut_bool Try.underlying4 _) trodAll_mk0
  · exact trodAll_cons_mk (shut_int Try.underlying3 w0) (trodAll_cons_mk (shut_int Try.underlying3 w1) trodAll_mk0)
  · rfl

theorem over : Rows.tokensBadRow.holds Try.pinned (OpenSpec.ofChange Rows.tokensBadSpec) :=
  OpenClaim.holds_of_wide 3 Try.f3 rfl rfl rfl rfl rfl rfl rfl ⟨rfl, rfl, rfl, rfl, rfl⟩ rfl rfl rfl rfl rfl (by kernel_rfl) Try.func3 (by kernel_rfl)
    (of_decide_eq_true (by kernel_rfl)) (by unfold Func.isWrapper; first | (rw [if_pos (by decide +kernel)]; kernel_rfl) | (rw [if_neg (by decide +kernel)]; exact ⟨rfl, rfl⟩))
    (fun os started H enc _ => lifted os started H enc)

theorem proved : Rows.TokensBadSaid :=
  over
#print axioms proved
end Go.Proofs.Ytcohalgmbgkllab.tokensBad
