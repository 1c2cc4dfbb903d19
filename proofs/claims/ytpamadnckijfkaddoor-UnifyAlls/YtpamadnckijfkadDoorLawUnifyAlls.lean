/- At every two lists of texts and a text unify.All answers what the reference's AllOf answers (UnifyAlls), without conditions. The card is tied to the program's text. -/
import Derived.Test.YtpamadnckijfkadDoorAllOf
import Derived.SliceStrings
import Derived.Test.YtpamadnckijfkadDoorTie
import Derived.Test.YtpamadnckijfkadDoorCards
import Derived.ProofKit
import Derived.OpenShut
import Derived.ShutString
import Derived.ChangeOld
import Derived.Lay
import Derived.LaidMore
import Derived.Stop.Joined
import Derived.SevenTiedAt
import Derived.SizedLaws
namespace Go.Proofs.YtpamadnckijfkadDoor.unifyAlls
open Go.ChangeShapes Go.WideShapes Go.ChangeAt Go.RowKit
set_option maxRecDepth 100000
open Go.ChangeMaps (open_string shut_string)

theorem own : ownKnob Tryd.prog.godebug = none := by kernel_rfl

theorem walk (v u : Value) (ps is : List ByteArray) (r : ByteArray) (hr : r.size ≤ maxLen) (w : World) (hv : StrRow w v ps) (hu : StrRow w u is) :
    Calls Tryd.prog 4 #[v, u, .string r] w fun e w' => e = .returned (.bool true) ∧ Below w.heap.size w w' := by
  have hq : ((allVal ps is r).toList == (allVal ps is r).toList) = true := by simp
  have hr' : (allErr ps is r == allErr ps is r) = true := by simp
  have HV := veilK hv
  have HU := veilK hu
  obtain ⟨a, cap, rfl, hm⟩ := hv.slice
  obtain ⟨a', cap', rfl, hm'⟩ := hu.slice
  clear hv hu
  go_enter Tryd.func4, Tryd.ntmps4
  go_wp2_with fail
  refine (all_any _ _ ps is r hr _ HV.out HU.out).mono ?_
  rintro e w2 ⟨rfl, hb⟩
  have HV2 := veilK (HV.out.later hb)
  have HU2 := veilK (HU.out.later hb)
  go_wp2_with fail
  refine (allOf_any _ _ ps is r hr _ HV2.out HU2.out).mono ?_
  rintro e w3 ⟨rfl, hb3⟩
  have HB := veilK (hb.trans (hb3.mono hb.size))
  clear hb hb3
  generalize allVal ps is r = t at *
  generalize allErr ps is r = n at *
  go_wp2
  go_ret
  exact ⟨rfl, HB.out⟩

theorem cellsStr : Tryd.prog.cellsOf 9 = 1 := by kernel_rfl
theorem laidOut : laidOutB Tryd.prog = true := by kernel_rfl

theorem strRow_read {H : Type} {enc : TypeId × Value → H} {W : World} {base : Nat} {spare : Nat → Bool} {held : Bool} {fuel : Nat} {a : Option Addr} {len cap : Nat} {x : DataW H × List MemPlace}
    (h : DataW.trod enc Tryd.prog W base spare held fuel 26 [.slice a len cap] = some x) : ∃ l, StrRow W (.slice a len cap) l := by
  rcases open_strings Tryd.underlying26 Tryd.underlying9 cellsStr h with ⟨hcs, _⟩ | ⟨a', len', cap', ss, hcs, _, hl, hm, hz, _, hcell, hsz⟩
  · simp at hcs
    obtain ⟨rfl, rfl, rfl⟩ := hcs
    exact ⟨[], Or.inl ⟨rfl, _, _, rfl⟩⟩
  · simp at hcs
    obtain ⟨rfl, rfl, rfl⟩ := hcs
    have hlm : len ≤ ss.length := by rw [hz]; split <;> omega
    by_cases h0 : len = 0
    · subst h0
      exact ⟨[], Or.inl ⟨rfl, _, _, rfl⟩⟩
    · obtain ⟨b, off, spot⟩ := a'
      have hspot : spot = none := by simpa [Addr.add] using World.cell?_spot (hcell 0 (by omega))
      subst hspot
      refine ⟨ss.take len, Or.inr ⟨b, off, cap, by rw [List.length_take, Nat.min_eq_left hlm], by rw [List.length_take]; omega, fun i hi => ?_⟩⟩
      have hi' : i < len := by rw [List.length_take] at hi; omega
      have e : (ss.take len).getD i .empty = ss.getD i .empty := by
        rw [List.getD_eq_getElem?_getD, List.getD_eq_getElem?_getD, List.getElem?_take_of_lt hi']
      rw [e]
      have hc := hcell i (by omega)
      rw [add_plain] at hc
      refine ⟨hc, hsz _ ?_⟩
      rw [List.getD_eq_getElem?_getD, List.getElem?_eq_getElem (by omega)]
      exact List.getElem_mem _

/-! ### The row, and the card -/

abbrev laidRows : List (String × DataW Unit) := Rows.unifyAllsRow.laid

theorem laid_met (os : Os) (args : Array Value) : laidMetH Tryd.prog laidRows ((World.laidAll Tryd.prog os laidRows).forCall (fun _ _ => 0) ⟨#[], args, []⟩).memory := by
  rw [MakeChecks.laidMetH_plain _ _ _ (by kernel_rfl)]
  exact laidMet_laidAll _ (by kernel_rfl) (by kernel_rfl)

set_option maxRecDepth 100000 in
theorem lifted (os : Os) (started : os.Started) (H : Type) (enc : TypeId × Value → H) :
    ReturnsInHanded {} Tryd.checked os 4 .any (fun w args => (Rows.unifyAllsSpec.pre enc Tryd.prog Tryd.f4 [] false w args ∧ laidMetH Tryd.prog laidRows w) ∧ sizedMet enc Tryd.prog Tryd.f4 (OpenSpec.ofChange Rows.unifyAllsSpec) false w args)
      (Rows.unifyAllsSpec.post enc Tryd.prog Tryd.f4 false true false false) := by
  refine returnsInHanded_of_change_and (C := Tryd.checked) (X := fun w _ => laidMetH Tryd.prog laidRows w) (fun _ _ _ hh h => h.of_heap hh) own started (by kernel_rfl) Tryd.func4
    (ChangeSpec.witness_shaped (enc := enc) (C := Tryd.checked) (os := os) (X := fun w _ => laidMetH Tryd.prog laidRows w) false (World.laidAll Tryd.prog os laidRows) #[.slice none 0 0, .slice none 0 0, .string ByteArray.empty] 8 rfl (World.shaped_of_ZipB (by kernel_rfl) (by kernel_rfl)) (by kernel_rfl) (by kernel_rfl) (by kernel_rfl) (laid_met os _)) ?_
  intro W base args ds gs before hval0 hW _ hsz hL _
  have hval : ∀ (j : Nat) t v, Tryd.f4.params[j]? = some t → args[j]? = some v → Value.okWide Tryd.prog W .any base t v := hval0
  have hW' := hW
  obtain ⟨p, q, hA0, hV, rfl, hfz, hnd⟩ := hW
  have hA : DataW.TrodAll enc Tryd.prog W 0 (fun _ => true) true Tryd.f4.params.toList args.toList ds p := hA0
  rw [Tryd.params4] at hA hval
  obtain ⟨v0, vs0, d0, ds0, p0, q0, hargs, rfl, rfl, h0, r0⟩ := trodAll_cons hA
  obtain ⟨v1, vs1, d1, ds1, p1, q1, hargs1, rfl, rfl, h1, r1⟩ := trodAll_cons r0
  obtain ⟨v2, vs2, d2, ds2, p2, q2, hargs2, rfl, rfl, h2, r2⟩ := trodAll_cons r1
  obtain ⟨rfl, rfl, rfl⟩ := trodAll_nil r2
  obtain rfl : args = #[v0, v1, v2] := by cases args; simp_all
  obtain ⟨rfl, rfl⟩ := trodVars_none hV
  obtain ⟨a0, len0, cap0, rfl⟩ := okWide_slice Tryd.underlying26 (hval 0 26 v0 rfl rfl)
  obtain ⟨a1, len1, cap1, rfl⟩ := okWide_slice Tryd.underlying26 (hval 1 26 v1 rfl rfl)
  obtain ⟨a2, rfl, rfl, rfl, w2⟩ := open_string Tryd.underlying9 (hval 2 9 v2 rfl rfl) h2
  have k0 := h0
  have lt0 : ∀ x ∈ p0, x.block < W.heap.size := by obtain ⟨m, hm⟩ := k0; exact DataW.trod_lt m _ _ _ hm
  have k1 := h1
  have lt1 : ∀ x ∈ p1, x.block < W.heap.size := by obtain ⟨m, hm⟩ := k1; exact DataW.trod_lt m _ _ _ hm
  obtain ⟨l0, w0⟩ : ∃ l, StrRow W (.slice a0 len0 cap0) l := by
    obtain ⟨fuel, hf⟩ := h0
    exact strRow_read hf
  obtain ⟨l1, w1⟩ : ∃ l, StrRow W (.slice a1 len1 cap1) l := by
    obtain ⟨fuel, hf⟩ := h1
    exact strRow_read hf
  clear hA0 hval0 hsz hL
  refine (walk _ _ l0 l1 a2 w2 W w0 w1).mono fun e W' ⟨he, bel⟩ => ?_
  subst he
  exact ⟨_, rfl, _, _, _, [], _, [], hW', trodAll_mk1 (shut_bool Tryd.underlying4 _), (trodAll_cons_mk (Below.trod laidOut (by kernel_rfl) (of_decide_eq_true (by kernel_rfl)) k0 bel lt0) (trodAll_cons_mk (Below.trod laidOut (by kernel_rfl) (of_decide_eq_true (by kernel_rfl)) k1 bel lt1) (trodAll_cons_mk (shut_string Tryd.underlying9 w2) trodAll_mk0))), rfl, bel.frame _, fun h => by cases h⟩

theorem over : Rows.UnifyAllsSaid :=
  OpenClaim.holds_of_wide 4 Tryd.f4 rfl rfl rfl rfl rfl rfl rfl ⟨rfl, rfl, rfl, rfl, rfl⟩ rfl rfl rfl rfl rfl (by kernel_rfl) Tryd.func4 (by kernel_rfl)
    (of_decide_eq_true (by kernel_rfl)) (by unfold Func.isWrapper; first | (rw [if_pos (by decide +kernel)]; kernel_rfl) | (rw [if_neg (by decide +kernel)]; exact ⟨rfl, rfl⟩))
    (fun os started H enc _ => lifted os started H enc)

theorem proved : Rows.UnifyAllsCardSaid :=
  Claim7.holds_tied_plain_at .later [] [.data, .pinned] true (true, "cdc09ac5ea1bd729f749b6dd95dfdfef061550593b55dcd9af3cb044272d8c07") false
    over (fun _ h => by cases h) (by kernel_rfl) (fun _ h => by cases h) unifyAlls_row_tie rfl ⟨rfl, rfl⟩ (by kernel_rfl) rfl
    (fun f fn hf hfn => by
      obtain rfl : f = 4 := Option.some.inj ((show Tryd.prog.funcNamed "scullery/scullerylaw.UnifyAlls" = some 4 by kernel_rfl).symm.trans hf) |>.symm
      obtain rfl : fn = Tryd.f4 := (Option.some.inj (Tryd.func4.symm.trans hfn)).symm
      exact ⟨by kernel_rfl, fun j t ht => by
        rw [Tryd.params4] at ht
        have hm : t ∈ [26, 26, 9] := by simpa using Array.mem_of_getElem? ht
        have hall : ([26, 26, 9].all fun u => !Tryd.prog.wantsStandIn u) = true := by kernel_rfl
        exact (show Tryd.prog.wantsStandIn t = false by simpa using List.all_eq_true.1 hall t hm)⟩)
    (by kernel_rfl)
#print axioms proved
end Go.Proofs.YtpamadnckijfkadDoor.unifyAlls
