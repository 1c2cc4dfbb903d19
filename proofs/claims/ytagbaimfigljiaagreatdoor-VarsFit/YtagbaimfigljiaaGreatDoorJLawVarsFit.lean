/- A function with a variable takes anything and tells what comes of it (VarsFit), without conditions. The card is tied to the program's text. -/
import Derived.Test.YtagbaimfigljiaaGreatDoorJCk29
import Derived.Test.YtagbaimfigljiaaGreatDoorJCk30
import Derived.Test.YtagbaimfigljiaaGreatDoorRows
import Derived.Test.YtagbaimfigljiaaGreatDoorTie
import Derived.Test.YtagbaimfigljiaaGreatDoorCards
import Derived.Test.YtagbaimfigljiaaGreatDoorRowVarsFit
import Derived.ProofKit
import Derived.OpenShut
import Derived.ShutString
import Derived.ChangeOld
import Derived.Lay
import Derived.LaidMore
import Derived.Stop.Joined
import Derived.SevenTiedAt
import Derived.SizedLaws
namespace Go.Proofs.YtagbaimfigljiaaGreatDoor.varsFit
open Go.RowKit
set_option maxRecDepth 100000

set_option maxHeartbeats 8000000 in
theorem walk (x y z u : Int) (hy : (Lit.int .i64 y).wf = true) (hz : (Lit.int .i64 z).wf = true) (x' y' z' u' : Int) (hy' : (Lit.int .i64 y').wf = true) (hz' : (Lit.int .i64 z').wf = true) (w : World) :
    Calls Tryz.prog 7 #[.agg #[.int .i64 x, .int .i64 y, .int .i64 z, .int .i64 u], .agg #[.int .i64 x', .int .i64 y', .int .i64 z', .int .i64 u']] w fun e w' => e = .returned (.bool true) ∧ Below w.heap.size w w' := by
  obtain ⟨n, j, hn, hj, hK⟩ := kind_raw x y z u hy hz
  obtain ⟨m, i, hm, hi, hK'⟩ := kind_raw x' y' z' u' hy' hz'
  obtain ⟨k, hk, hR⟩ := put_is n j 0 hn hj (by omega)
  obtain ⟨l, hl, hR'⟩ := put_is m i 1 hm hi (by omega)
  have HK := veil hK
  have HK' := veil hK'
  have HR := veil hR
  have HR' := veil hR'
  have hp := (kText_line n hn k hk).2
  have hq := (kText_line m hm l hl).2
  have HW : Hid (eqL dgEq (chkBads (varsText (kText n k) (kText m l)) []) (if sEq (kText n k) (kText m l) = true then [⟨⟨#[100]⟩, 8⟩] else [⟨⟨#[99]⟩, 8⟩, ⟨⟨#[100]⟩, 8⟩]) = true) := by
    rw [vars_same n hn k hk m hm l hl, vars_read n hn k hk m hm l hl]
    simp only [decide_eq_true_eq]
    exact vars_wrong n hn k hk m hm l hl
  clear hK hK' hR hR' hy hz hy' hz' hn hj hm hi hk hl
  generalize kText n k = p at *
  generalize kText m l = q at *
  generalize kText n j = p0 at *
  generalize kText m i = q0 at *
  have HC : Hid (∀ W, Calls Tryz.prog 18 #[.string (varsText p q)] W fun e w' => ∃ x1 x2 x3 y1 y2 y3 d, e = .returned (.tuple #[.agg #[.slice x1 x2 x3, .slice y1 y2 y3], d, .bool true]) ∧ FcIs (fun b => W.heap.size ≤ b ∧ b < w'.heap.size) w' (chkFace (varsText p q) []) (.agg #[.slice x1 x2 x3, .slice y1 y2 y3]) ∧ SlAt (fun b => W.heap.size ≤ b ∧ b < w'.heap.size) (DgAt w') 2 (chkBads (varsText p q) []) d ∧ Below W.heap.size W w') := fun W => checked_any _ W
  generalize chkFace (varsText p q) [] = cf at *
  generalize chkBads (varsText p q) [] = ds at *
  have y0 : ¬ 9223372036854775807 < 75 + p.size := by omega
  have y1 : ¬ 9223372036854775807 < 75 + p.size + 4 := by omega
  have y2 : ¬ 9223372036854775807 < 75 + p.size + 4 + p.size := by omega
  have y3 : ¬ 9223372036854775807 < 75 + p.size + 4 + p.size + 21 := by omega
  have y4 : ¬ 9223372036854775807 < 75 + p.size + 4 + p.size + 21 + p.size := by omega
  have y5 : ¬ 9223372036854775807 < 75 + p.size + 4 + p.size + 21 + p.size + 3 := by omega
  have y6 : ¬ 9223372036854775807 < 75 + p.size + 4 + p.size + 21 + p.size + 3 + p.size := by omega
  have y7 : ¬ 9223372036854775807 < 75 + p.size + 4 + p.size + 21 + p.size + 3 + p.size + 28 := by omega
  have y8 : ¬ 9223372036854775807 < 75 + p.size + 4 + p.size + 21 + p.size + 3 + p.size + 28 + p.size := by omega
  have y9 : ¬ 9223372036854775807 < 75 + p.size + 4 + p.size + 21 + p.size + 3 + p.size + 28 + p.size + 5 := by omega
  have y10 : ¬ 9223372036854775807 < 75 + p.size + 4 + p.size + 21 + p.size + 3 + p.size + 28 + p.size + 5 + q.size := by omega
  have y11 : ¬ 9223372036854775807 < 75 + p.size + 4 + p.size + 21 + p.size + 3 + p.size + 28 + p.size + 5 + q.size + 3 := by omega
  have y12 : ¬ 9223372036854775807 < 75 + p.size + 4 + p.size + 21 + p.size + 3 + p.size + 28 + p.size + 5 + q.size + 3 + p.size := by omega
  have y13 : ¬ 9223372036854775807 < 75 + p.size + 4 + p.size + 21 + p.size + 3 + p.size + 28 + p.size + 5 + q.size + 3 + p.size + 43 := by omega
  go_enter Tryz.func7, Tryz.ntmps7
  go_wp2_with fail
  refine (HK.out _).mono ?_
  rintro e w1 ⟨rfl, hb1⟩
  go_wp2_with fail
  refine (HR.out _).mono ?_
  rintro e w2 ⟨rfl, hb2⟩
  have hb := hb1.trans (hb2.mono hb1.size)
  obtain ⟨c0, c1, c2, c3⟩ := box_cells hb
  rw [show (w.alloc (.cells #[.int .i64 x, .int .i64 y, .int .i64 z, .int .i64 u] 59)).heap.size = w.heap.size + 1 by simp] at c0 c1 c2 c3
  have HB2 : Hid (Below w.heap.size w w2) := (((Below.refl _ _).alloc (Nat.le_refl _) _).alloc (by simp) _).trans (hb.mono (by simp; omega))
  clear hb hb1 hb2 HK HR
  go_wp2_with fail
  refine (HK'.out _).mono ?_
  rintro e w3 ⟨rfl, hb3⟩
  go_wp2_with fail
  refine (HR'.out _).mono ?_
  rintro e w4 ⟨rfl, hb4⟩
  have HB4 := veil ((HB2.out.trans (hb3.mono HB2.out.size)).trans (hb4.mono (Nat.le_trans HB2.out.size hb3.size)))
  clear hb3 hb4 HB2 HK' HR' c0 c1 c2 c3
  go_wp2_with fail
  refine (HC.out _).mono ?_
  rintro e w5 ⟨x1, x2, x3, y1, y2, y3, d, rfl, _, hd, hb5⟩
  have HB5 := veil (HB4.out.trans (hb5.mono HB4.out.size))
  have hd : SlAt (fun b => b < w5.heap.size) (DgAt w5) 2 ds d := dgSl_keep ⟨fun _ _ => rfl, fun _ h => h.2⟩ hd
  obtain ⟨da, dc, rfl⟩ := hd.is
  have HD := veil hd
  clear hd hb5 HB4 HC
  cases hs : (p.toList == q.toList) with
  | true =>
    obtain ⟨W1, HE, hb6, hs6⟩ := dg_made1 (w5.alloc (.cells #[.slice x1 x2 x3, .slice y1 y2 y3] 30)) ⟨#[100]⟩ 8 (by show (1 : Nat) ≤ 9223372036854775807; omega)
    rw [show (w5.alloc (.cells #[.slice x1 x2 x3, .slice y1 y2 y3] 30)).heap.size = w5.heap.size + 1 by simp] at hs6 hb6
    have hb7 : Below w5.heap.size w5 W1 := ((Below.refl _ _).alloc (Nat.le_refl _) _).trans (hb6.mono (by omega))
    have HQ : Hid (Calls Tryz.prog 25 #[.slice da ds.length dc, .slice (some ⟨w5.heap.size + 1, 0, none⟩) 1 1] W1 fun e w' => e = .returned (.bool true) ∧ Below W1.heap.size W1 w') := by
      have h := equal_dg (fun b => b < W1.heap.size) ds _ _ _ W1 (fun _ h => h) (dgSl_keep ⟨fun b hb => hb7.block b hb, fun b hb => Nat.lt_of_lt_of_le hb hb7.size⟩ HD.out) hs6
      have hw := HW.out
      rw [if_pos (show sEq p q = true from hs)] at hw
      rw [hw] at h
      exact h
    have HB7 := veil (HB5.out.trans (hb7.mono HB5.out.size))
    clear hb6 hb7 hs6 HW HD HB5
    go_wp2_with fail
    rw [HE.out]
    refine HQ.out.mono ?_
    rintro e w6 ⟨rfl, hb8⟩
    have HB8 := veil (HB7.out.trans (hb8.mono HB7.out.size))
    clear hb8 HB7 HQ HE
    go_wp2_with fail
    go_ret
    exact ⟨rfl, HB8.out⟩
  | false =>
    obtain ⟨W1, HE, hb6, hs6⟩ := dg_made2 (w5.alloc (.cells #[.slice x1 x2 x3, .slice y1 y2 y3] 30)) ⟨#[99]⟩ ⟨#[100]⟩ 8 8 (by show (1 : Nat) ≤ 9223372036854775807; omega) (by show (1 : Nat) ≤ 9223372036854775807; omega)
    rw [show (w5.alloc (.cells #[.slice x1 x2 x3, .slice y1 y2 y3] 30)).heap.size = w5.heap.size + 1 by simp] at hs6 hb6
    have hb7 : Below w5.heap.size w5 W1 := ((Below.refl _ _).alloc (Nat.le_refl _) _).trans (hb6.mono (by omega))
    have HQ : Hid (Calls Tryz.prog 25 #[.slice da ds.length dc, .slice (some ⟨w5.heap.size + 1, 0, none⟩) 2 2] W1 fun e w' => e = .returned (.bool true) ∧ Below W1.heap.size W1 w') := by
      have h := equal_dg (fun b => b < W1.heap.size) ds _ _ _ W1 (fun _ h => h) (dgSl_keep ⟨fun b hb => hb7.block b hb, fun b hb => Nat.lt_of_lt_of_le hb hb7.size⟩ HD.out) hs6
      have hw := HW.out
      rw [if_neg (by rw [show sEq p q = false from hs]; decide)] at hw
      rw [hw] at h
      exact h
    have HB7 := veil (HB5.out.trans (hb7.mono HB5.out.size))
    clear hb6 hb7 hs6 HW HD HB5
    go_wp2_with fail
    rw [HE.out]
    refine HQ.out.mono ?_
    rintro e w6 ⟨rfl, hb8⟩
    have HB8 := veil (HB7.out.trans (hb8.mono HB7.out.size))
    clear hb8 HB7 HQ HE
    go_wp2_with fail
    go_ret
    exact ⟨rfl, HB8.out⟩

end Go.Proofs.YtagbaimfigljiaaGreatDoor.varsFit
namespace Go.Proofs.YtagbaimfigljiaaGreatDoor.varsFit
open Go.ChangeShapes Go.WideShapes Go.ChangeAt Go.RowKit
set_option maxRecDepth 100000
open Go.ChangeMaps (open_string shut_string)

theorem own : ownKnob Tryz.prog.godebug = none := by kernel_rfl
theorem cellsRaw : Tryz.prog.cellsOf 59 = 4 := by kernel_rfl
theorem cellsInt : Tryz.prog.cellsOf 3 = 1 := by kernel_rfl

theorem raw_read {H : Type} {enc : TypeId × Value → H} {W : World} {base : Nat} {spare : Nat → Bool} {held : Bool} (fuel : Nat) (cs : List Value) (x : DataW H × List MemPlace) (h : DataW.trod enc Tryz.prog W base spare held fuel 59 cs = some x) :
    ∃ a b c d, cs = [.int .i64 a, .int .i64 b, .int .i64 c, .int .i64 d] ∧ (Lit.int .i64 b).wf = true ∧ (Lit.int .i64 c).wf = true := by
  obtain ⟨ys, n, _, _, hlen, hyl0, hf⟩ := DataW.trod_struct Tryz.underlying59 h
  rw [cellsRaw] at hlen
  match cs, hlen with
  | [v0, v1, v2, v3], _ =>
    have g0 : DataW.trod enc Tryz.prog W base spare held n 3 (([v0, v1, v2, v3].drop 0).take (Tryz.prog.cellsOf 3)) = ys[0]? := hf 0 _ rfl
    have g1 : DataW.trod enc Tryz.prog W base spare held n 3 (([v0, v1, v2, v3].drop 1).take (Tryz.prog.cellsOf 3)) = ys[1]? := hf 1 _ rfl
    have g2 : DataW.trod enc Tryz.prog W base spare held n 3 (([v0, v1, v2, v3].drop 2).take (Tryz.prog.cellsOf 3)) = ys[2]? := hf 2 _ rfl
    have g3 : DataW.trod enc Tryz.prog W base spare held n 3 (([v0, v1, v2, v3].drop 3).take (Tryz.prog.cellsOf 3)) = ys[3]? := hf 3 _ rfl
    rw [cellsInt] at g0 g1 g2 g3
    have hyl : ys.length = 4 := hyl0
    obtain ⟨y0, e0⟩ : ∃ y, ys[0]? = some y := ⟨_, List.getElem?_eq_getElem (by omega)⟩
    obtain ⟨y1, e1⟩ : ∃ y, ys[1]? = some y := ⟨_, List.getElem?_eq_getElem (by omega)⟩
    obtain ⟨y2, e2⟩ : ∃ y, ys[2]? = some y := ⟨_, List.getElem?_eq_getElem (by omega)⟩
    obtain ⟨y3, e3⟩ : ∃ y, ys[3]? = some y := ⟨_, List.getElem?_eq_getElem (by omega)⟩
    obtain ⟨k0, h0, _, w0⟩ := DataW.trod_int Tryz.underlying3 (g0.trans e0)
    obtain ⟨k1, h1, _, w1⟩ := DataW.trod_int Tryz.underlying3 (g1.trans e1)
    obtain ⟨k2, h2, _, w2⟩ := DataW.trod_int Tryz.underlying3 (g2.trans e2)
    obtain ⟨k3, h3, _, w3⟩ := DataW.trod_int Tryz.underlying3 (g3.trans e3)
    simp at h0 h1 h2 h3
    subst h0 h1 h2 h3
    exact ⟨k0, k1, k2, k3, rfl, w1, w2⟩

theorem laidOut : laidOutB Tryz.prog = true := laidBut

abbrev laidRows : List (String × DataW Unit) := Rows.varsFitRow.laid

theorem laid_met (os : Os) (args : Array Value) : laidMetH Tryz.prog laidRows ((World.laidAll Tryz.prog os laidRows).forCall (fun _ _ => 0) ⟨#[], args, []⟩).memory := by
  rw [MakeChecks.laidMetH_plain _ _ _ (by kernel_rfl)]
  exact laidMet_laidAll _ (by kernel_rfl) (by kernel_rfl)

set_option maxRecDepth 100000 in
theorem lifted (os : Os) (started : os.Started) (H : Type) (enc : TypeId × Value → H) :
    ReturnsInHanded {} Tryz.checked os 7 .any (fun w args => (Rows.varsFitSpec.pre enc Tryz.prog Tryz.f7 [] false w args ∧ laidMetH Tryz.prog laidRows w) ∧ sizedMet enc Tryz.prog Tryz.f7 (OpenSpec.ofChange Rows.varsFitSpec) false w args)
      (Rows.varsFitSpec.post enc Tryz.prog Tryz.f7 false true false false) := by
  refine returnsInHanded_of_change_and (C := Tryz.checked) (X := fun w _ => laidMetH Tryz.prog laidRows w) (fun _ _ _ hh h => h.of_heap hh) own started (by kernel_rfl) Tryz.func7
    (ChangeSpec.witness_shaped (enc := enc) (C := Tryz.checked) (os := os) (X := fun w _ => laidMetH Tryz.prog laidRows w) false (World.laidAll Tryz.prog os laidRows) #[.agg #[.int .i64 0, .int .i64 0, .int .i64 0, .int .i64 0], .agg #[.int .i64 0, .int .i64 0, .int .i64 0, .int .i64 0]] 8 rfl (World.shaped_of_ZipB (by kernel_rfl) (by kernel_rfl)) (by kernel_rfl) (by kernel_rfl) (by kernel_rfl) (laid_met os _)) ?_
  intro W base args ds gs before hval0 hW _ hsz hL _
  have hval : ∀ (j : Nat) t v, Tryz.f7.params[j]? = some t → args[j]? = some v → Value.okWide Tryz.prog W .any base t v := hval0
  have hW' := hW
  obtain ⟨p, q, hA0, hV, rfl, hfz, hnd⟩ := hW
  have hA : DataW.TrodAll enc Tryz.prog W 0 (fun _ => true) true Tryz.f7.params.toList args.toList ds p := hA0
  rw [Tryz.params7] at hA hval
  obtain ⟨v0, vs0, d0, ds0, p0, q0, hargs0, rfl, rfl, h0, r0⟩ := trodAll_cons hA
  obtain ⟨v1, vs1, d1, ds1, p1, q1, hargs1, rfl, rfl, h1, r1⟩ := trodAll_cons r0
  obtain ⟨rfl, rfl, rfl⟩ := trodAll_nil r1
  obtain rfl : args = #[v0, v1] := by cases args; simp_all
  obtain ⟨rfl, rfl⟩ := trodVars_none hV
  obtain ⟨cs0, rfl, _⟩ := okWide_struct Tryz.underlying59 (hval 0 59 v0 rfl rfl)
  have k0 := h0
  have lt0 : ∀ x ∈ p0, x.block < W.heap.size := by obtain ⟨m, hm⟩ := k0; exact DataW.trod_lt m _ _ _ hm
  obtain ⟨x0, y0, z0, u0, rfl, wy0, wz0⟩ : ∃ a b c d, cs0 = #[.int .i64 a, .int .i64 b, .int .i64 c, .int .i64 d] ∧ (Lit.int .i64 b).wf = true ∧ (Lit.int .i64 c).wf = true := by
    obtain ⟨fuel, hf⟩ := h0
    obtain ⟨a, b, c, d, hcs, wb, wc⟩ := raw_read fuel _ _ hf
    refine ⟨a, b, c, d, ?_, wb, wc⟩
    have : cs0.toList = [.int .i64 a, .int .i64 b, .int .i64 c, .int .i64 d] := hcs
    cases cs0; simp_all
  obtain ⟨cs1, rfl, _⟩ := okWide_struct Tryz.underlying59 (hval 1 59 v1 rfl rfl)
  have k1 := h1
  have lt1 : ∀ x ∈ p1, x.block < W.heap.size := by obtain ⟨m, hm⟩ := k1; exact DataW.trod_lt m _ _ _ hm
  obtain ⟨x1, y1, z1, u1, rfl, wy1, wz1⟩ : ∃ a b c d, cs1 = #[.int .i64 a, .int .i64 b, .int .i64 c, .int .i64 d] ∧ (Lit.int .i64 b).wf = true ∧ (Lit.int .i64 c).wf = true := by
    obtain ⟨fuel, hf⟩ := h1
    obtain ⟨a, b, c, d, hcs, wb, wc⟩ := raw_read fuel _ _ hf
    refine ⟨a, b, c, d, ?_, wb, wc⟩
    have : cs1.toList = [.int .i64 a, .int .i64 b, .int .i64 c, .int .i64 d] := hcs
    cases cs1; simp_all
  clear hA0 hval0 hsz hL
  refine (walk x0 y0 z0 u0 wy0 wz0 x1 y1 z1 u1 wy1 wz1 W).mono fun e W' ⟨he, bel⟩ => ?_
  subst he
  exact ⟨_, rfl, _, _, _, [], _, [], hW', trodAll_mk1 (shut_bool Tryz.underlying4 _), (trodAll_cons_mk (Below.trod laidOut (by kernel_rfl) (of_decide_eq_true (by kernel_rfl)) k0 bel lt0) (trodAll_cons_mk (Below.trod laidOut (by kernel_rfl) (of_decide_eq_true (by kernel_rfl)) k1 bel lt1) trodAll_mk0)), rfl, bel.frame _, fun h => by cases h⟩

theorem over : Rows.VarsFitSaid :=
  OpenClaim.holds_of_wide 7 Tryz.f7 rfl rfl rfl rfl rfl rfl rfl ⟨rfl, rfl, rfl, rfl, rfl⟩ rfl rfl rfl rfl rfl named Tryz.func7 closed inst wrap
    (fun os started H enc _ => lifted os started H enc)

theorem proved : Rows.VarsFitCardSaid :=
  Claim7.holds_tied_plain_at .later [] [.data, .data, .data, .data, .sentinel, .sentinel, .pinned] true (true, "89924557b17f9ccb6b44d3a0bc7c3e5a3c527105e4d42c0ac174a6be0c85f341") true
    over (fun _ h => by cases h) byText (fun _ h => by cases h) varsFit_row_tie rfl ⟨rfl, rfl⟩ mainOk rfl
    (fun f fn hf hfn => by
      obtain rfl : f = 7 := Option.some.inj (named.symm.trans hf) |>.symm
      obtain rfl : fn = Tryz.f7 := (Option.some.inj (Tryz.func7.symm.trans hfn)).symm
      exact ⟨looksOk, fun j t ht => by
        rw [Tryz.params7] at ht
        have hm : t ∈ [59, 59] := by simpa using Array.mem_of_getElem? ht
        exact (show Tryz.prog.wantsStandIn t = false by simpa using List.all_eq_true.1 standIns t hm)⟩)
    goesOk
#print axioms proved
end Go.Proofs.YtagbaimfigljiaaGreatDoor.varsFit
