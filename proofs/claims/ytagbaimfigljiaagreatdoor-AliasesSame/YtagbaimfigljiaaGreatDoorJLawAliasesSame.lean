/- A type that is another one is the same; those that are each other are told (AliasesSame), without conditions. The card is tied to the program's text. -/
import Derived.Test.YtagbaimfigljiaaGreatDoorJCk30
import Derived.Test.YtagbaimfigljiaaGreatDoorJCk12
import Derived.Test.YtagbaimfigljiaaGreatDoorJCk16
import Derived.Test.YtagbaimfigljiaaGreatDoorRows
import Derived.Test.YtagbaimfigljiaaGreatDoorTie
import Derived.Test.YtagbaimfigljiaaGreatDoorCards
import Derived.Test.YtagbaimfigljiaaGreatDoorRowAliasesSame
import Derived.ProofKit
import Derived.OpenShut
import Derived.ShutString
import Derived.ChangeOld
import Derived.Lay
import Derived.LaidMore
import Derived.Stop.Joined
import Derived.SevenTiedAt
import Derived.SizedLaws
namespace Go.Proofs.YtagbaimfigljiaaGreatDoor.aliasesSame
open Go.RowKit
set_option maxRecDepth 100000

set_option maxHeartbeats 8000000 in
theorem walk (x y z u : Int) (hy : (Lit.int .i64 y).wf = true) (hz : (Lit.int .i64 z).wf = true) (n0 : Int) (_ : (Lit.int .i64 n0).wf = true) (w : World) :
    Calls Tryz.prog 8 #[.agg #[.int .i64 x, .int .i64 y, .int .i64 z, .int .i64 u], .int .i64 n0] w fun e w' => e = .returned (.bool true) ∧ Below w.heap.size w w' := by
  obtain ⟨n, j, hn, hj, hK⟩ := kind_raw x y z u hy hz
  obtain ⟨k, hk, hR⟩ := put_is n j 0 hn hj (by omega)
  have HK := veil hK
  have HR := veil hR
  have hp := (kText_line n hn k hk).2
  have hr := alias_read n hn k hk
  have HW : Hid (eqL dgEq (chkBads (aliasText (kText n k)) []) aliasDs = true) := by rw [hr.1]; exact alias_wrong n hn k hk
  have HT : Hid (typeErr (chkFace (aliasText (kText n k)) []) ⟨#[97]⟩ = 0 ∧ sEq (typeVal (chkFace (aliasText (kText n k)) []) ⟨#[97]⟩) (kText n k) = true ∧ typeErr (chkFace (aliasText (kText n k)) []) ⟨#[114, 49]⟩ = 6) := by rw [hr.2]; exact alias_types n hn k hk
  have HF : Hid (funcErr (chkFace (aliasText (kText n k)) []) ⟨#[102, 117, 110]⟩ = 0 ∧ eqL sEq (funcVal (chkFace (aliasText (kText n k)) []) ⟨#[102, 117, 110]⟩).params [kText n k] = true ∧ sEq (funcVal (chkFace (aliasText (kText n k)) []) ⟨#[102, 117, 110]⟩).result (kText n k) = true) := by rw [hr.2]; exact alias_func n hn k hk
  have HS : Hid (fcSmall (chkFace (aliasText (kText n k)) [])) := by rw [hr.2]; exact alias_small n hn k hk
  clear hK hR hy hz hn hj hk hr
  generalize kText n k = p at *
  generalize kText n j = p0 at *
  have HC : Hid (∀ W, Calls Tryz.prog 18 #[.string (aliasText p)] W fun e w' => ∃ x1 x2 x3 y1 y2 y3 d, e = .returned (.tuple #[.agg #[.slice x1 x2 x3, .slice y1 y2 y3], d, .bool true]) ∧ FcIs (fun b => W.heap.size ≤ b ∧ b < w'.heap.size) w' (chkFace (aliasText p) []) (.agg #[.slice x1 x2 x3, .slice y1 y2 y3]) ∧ SlAt (fun b => W.heap.size ≤ b ∧ b < w'.heap.size) (DgAt w') 2 (chkBads (aliasText p) []) d ∧ Below W.heap.size W w') := fun W => checked_any _ W
  generalize chkFace (aliasText p) [] = cf at *
  generalize chkBads (aliasText p) [] = ds at *
  have y0 : ¬ 9223372036854775807 < 20 + p.size := by omega
  have y1 : ¬ 9223372036854775807 < 20 + p.size + 128 := by omega
  go_enter Tryz.func8, Tryz.ntmps8
  go_wp2_with fail
  refine (HK.out _).mono ?_
  rintro e w1 ⟨rfl, hb1⟩
  go_wp2_with fail
  refine (HR.out _).mono ?_
  rintro e w2 ⟨rfl, hb2⟩
  have HB2 := veil ((((Below.refl _ _).alloc (Nat.le_refl _) _).trans (hb1.mono (by simp))).trans (hb2.mono (Nat.le_trans (by simp) hb1.size)))
  clear hb1 hb2 HK HR
  go_wp2_with fail
  refine (HC.out _).mono ?_
  rintro e w5 ⟨x1, x2, x3, y1, y2, y3, d, rfl, hf, hd, hb5⟩
  have HB5 := veil (HB2.out.trans (hb5.mono HB2.out.size))
  have hd : SlAt (fun b => b < w5.heap.size) (DgAt w5) 2 ds d := dgSl_keep ⟨fun _ _ => rfl, fun _ h => h.2⟩ hd
  have HFc : Hid (FcIs (fun b => b < w5.heap.size) w5 cf (.agg #[.slice x1 x2 x3, .slice y1 y2 y3])) := hf.keep ⟨fun _ _ => rfl, fun _ h => h.2⟩
  obtain ⟨da, dc, rfl⟩ := hd.is
  have HD := veil hd
  clear hd hb5 HB2 HC hf
  go_wp2_with fail
  obtain ⟨W6, HW6, hb6, b0, b1⟩ : ∃ W6, Hid (w5.alloc (.cells #[.slice x1 x2 x3, .slice y1 y2 y3] 30) = W6) ∧ Below w5.heap.size w5 W6 ∧ W6.cell? ⟨w5.heap.size, 0, none⟩ = some (.slice x1 x2 x3) ∧ W6.cell? ⟨w5.heap.size, 1, none⟩ = some (.slice y1 y2 y3) :=
    ⟨_, rfl, (Below.refl _ _).alloc (Nat.le_refl _) _, by simp [go_sem], by simp [go_sem]⟩
  rw [HW6.out]
  have HB6 := veil (HB5.out.trans (hb6.mono HB5.out.size))
  have HF6 : Hid (FcIs (fun b => b < W6.heap.size) W6 cf (.agg #[.slice x1 x2 x3, .slice y1 y2 y3])) := HFc.out.keep ⟨fun b hb => hb6.block b hb, fun b hb => Nat.lt_of_lt_of_le hb hb6.size⟩
  have HD6 : Hid (SlAt (fun b => b < W6.heap.size) (DgAt W6) 2 ds (.slice da ds.length dc)) := dgSl_keep ⟨fun b hb => hb6.block b hb, fun b hb => Nat.lt_of_lt_of_le hb hb6.size⟩ HD.out
  clear hb6 HFc HD HB5 HW6
  have HTy : Hid (∀ s, Calls Tryz.prog 26 #[.agg #[.slice x1 x2 x3, .slice y1 y2 y3], .string s] W6 fun e w' => e = .returned (.tuple #[.string (typeVal cf s), .int .i64 (typeErr cf s)]) ∧ Below W6.heap.size W6 w') := fun s => type_any _ cf s _ W6 (fun _ h => h) HF6.out HS.out
  refine (HTy.out _).mono ?_
  clear HTy
  rintro e w7 ⟨rfl, hb7⟩
  have HT7 : Hid (∀ s, Calls Tryz.prog 26 #[.agg #[.slice x1 x2 x3, .slice y1 y2 y3], .string s] w7 fun e w' => e = .returned (.tuple #[.string (typeVal cf s), .int .i64 (typeErr cf s)]) ∧ Below w7.heap.size w7 w') := fun s => type_any (fun b => b < w7.heap.size) cf s _ w7 (fun _ h => h) (HF6.out.keep ⟨fun b hb => hb7.block b hb, fun b hb => Nat.lt_of_lt_of_le hb hb7.size⟩) HS.out
  have H7 := veil hb7
  have c0 := (hb7.cell (World.block_lt_of_cell? _ _ b0)).trans b0
  have c1 := (hb7.cell (World.block_lt_of_cell? _ _ b1)).trans b1
  clear hb7 b0 b1
  rw [HT.out.1]
  go_wp2_with fail
  refine (HT7.out _).mono ?_
  clear HT7
  rintro e w8 ⟨rfl, hb8⟩
  have hb68 := H7.out.trans (hb8.mono H7.out.size)
  have HFn : Hid (∀ s, Calls Tryz.prog 27 #[.agg #[.slice x1 x2 x3, .slice y1 y2 y3], .string s] w8 fun e w' => ∃ a n cap, e = .returned (.tuple #[.agg #[.string (funcVal cf s).name, .slice a n cap, .string (funcVal cf s).result], .int .i64 (funcErr cf s)]) ∧ SgIs (fun b => b < w'.heap.size) w' (funcVal cf s) (.agg #[.string (funcVal cf s).name, .slice a n cap, .string (funcVal cf s).result]) ∧ Below w8.heap.size w8 w') := fun s => func_any (fun b => b < w8.heap.size) cf s _ w8 (fun _ h => h) (HF6.out.keep ⟨fun b hb => hb68.block b hb, fun b hb => Nat.lt_of_lt_of_le hb hb68.size⟩) HS.out
  have H8 := veil hb68
  have b0 := (hb8.cell (World.block_lt_of_cell? _ _ c0)).trans c0
  have b1 := (hb8.cell (World.block_lt_of_cell? _ _ c1)).trans c1
  clear hb8 c0 c1 hb68 H7
  rw [HT.out.2.2]
  go_wp2_with fail
  refine (HFn.out _).mono ?_
  clear HFn
  rintro e w9 ⟨a, pn, pc, rfl, hg, hb9⟩
  rw [HF.out.1]
  have hb69 := H8.out.trans (hb9.mono H8.out.size)
  have HD9 : Hid (SlAt (fun b => b < w9.heap.size) (DgAt w9) 2 ds (.slice da ds.length dc)) := dgSl_keep ⟨fun b hb => hb69.block b hb, fun b hb => Nat.lt_of_lt_of_le hb hb69.size⟩ HD6.out
  have HB9 := veil (HB6.out.trans (hb69.mono HB6.out.size))
  obtain ⟨vp, hv, _, _, hl⟩ := hg
  obtain rfl : .slice a pn pc = vp := by simpa using hv
  have HL := veil hl
  have HF2 := veil HF.out.2
  have HT2 := veil HT.out.2.1
  clear hb9 hb69 b0 b1 HB6 hl hv HF6 HD6 HF HT HS H8
  generalize funcVal cf ⟨#[102, 117, 110]⟩ = g at *
  generalize typeVal cf ⟨#[97]⟩ = tv at *
  have ht1 : (tv.toList == p.toList) = true := HT2.out
  have hr1 : (g.result.toList == p.toList) = true := HF2.out.2
  go_wp2_with fail
  obtain ⟨W9, HW9, hb9, hz9, c0, c1, c2⟩ : ∃ W9, Hid (w9.alloc (.cells #[.string g.name, .slice a pn pc, .string g.result] 65) = W9) ∧ Below w9.heap.size w9 W9 ∧ W9.heap.size = w9.heap.size + 1 ∧ W9.cell? ⟨w9.heap.size, 0, none⟩ = some (.string g.name) ∧ W9.cell? ⟨w9.heap.size, 1, none⟩ = some (.slice a pn pc) ∧ W9.cell? ⟨w9.heap.size, 2, none⟩ = some (.string g.result) :=
    ⟨_, rfl, (Below.refl _ _).alloc (Nat.le_refl _) _, by simp, by simp [go_sem], by simp [go_sem], by simp [go_sem]⟩
  rw [HW9.out]
  obtain ⟨W10, HW10, hb10, hs10⟩ := str_made1 W9 p (by unfold maxLen; omega)
  rw [HW10.out]
  rw [hz9] at hs10
  have d0 := (hb10.cell (World.block_lt_of_cell? _ _ c0)).trans c0
  have d1 := (hb10.cell (World.block_lt_of_cell? _ _ c1)).trans c1
  have d2 := (hb10.cell (World.block_lt_of_cell? _ _ c2)).trans c2
  have hbx : Below w9.heap.size w9 W10 := hb9.trans (hb10.mono hb9.size)
  have HQ : Hid (Calls Tryz.prog 28 #[.slice a pn pc, .slice (some ⟨w9.heap.size + 1, 0, none⟩) 1 1] W10 fun e w' => e = .returned (.bool true) ∧ Below W10.heap.size W10 w') := by
    have h := equal_str (fun b => b < W10.heap.size) g.params _ _ _ W10 (fun _ h => h) (strSl_keep ⟨fun b hb => hbx.block b hb, fun b hb => Nat.lt_of_lt_of_le hb hbx.size⟩ HL.out) hs10
    rw [HF2.out.1] at h
    exact h
  have HD10 : Hid (SlAt (fun b => b < W10.heap.size) (DgAt W10) 2 ds (.slice da ds.length dc)) := dgSl_keep ⟨fun b hb => hbx.block b hb, fun b hb => Nat.lt_of_lt_of_le hb hbx.size⟩ HD9.out
  have HB10 := veil (HB9.out.trans (hbx.mono HB9.out.size))
  clear hb9 hz9 c0 c1 c2 hb10 hs10 hbx HB9 HD9 HL HW9 HW10
  refine HQ.out.mono ?_
  clear HQ
  rintro e w11 ⟨rfl, hb11⟩
  have c0 := (hb11.cell (World.block_lt_of_cell? _ _ d0)).trans d0
  have c1 := (hb11.cell (World.block_lt_of_cell? _ _ d1)).trans d1
  have c2 := (hb11.cell (World.block_lt_of_cell? _ _ d2)).trans d2
  have HD11 : Hid (SlAt (fun b => b < w11.heap.size) (DgAt w11) 2 ds (.slice da ds.length dc)) := dgSl_keep ⟨fun b hb => hb11.block b hb, fun b hb => Nat.lt_of_lt_of_le hb hb11.size⟩ HD10.out
  have HB11 := veil (HB10.out.trans (hb11.mono HB10.out.size))
  clear hb11 d0 d1 d2 HB10 HD10
  go_wp2_with fail
  clear c0 c1 c2
  obtain ⟨W12, HW12, hb12, hs12⟩ := dg_made6 w11
  rw [HW12.out]
  have HB12 := veil (HB11.out.trans (hb12.mono HB11.out.size))
  have HQ : Hid (Calls Tryz.prog 25 #[.slice da ds.length dc, .slice (some ⟨w11.heap.size, 0, none⟩) 6 6] W12 fun e w' => e = .returned (.bool true) ∧ Below W12.heap.size W12 w') := by
    have h := equal_dg (fun b => b < W12.heap.size) ds _ _ _ W12 (fun _ h => h) (dgSl_keep ⟨fun b hb => hb12.block b hb, fun b hb => Nat.lt_of_lt_of_le hb hb12.size⟩ HD11.out) hs12
    rw [HW.out] at h
    exact h
  clear HB11 HD11 hs12 HW12 hb12 HW
  refine HQ.out.mono ?_
  clear HQ
  rintro e w13 ⟨rfl, hb13⟩
  have HB13 := veil (HB12.out.trans (hb13.mono HB12.out.size))
  clear hb13 HB12
  go_wp2_with fail
  go_ret
  exact ⟨rfl, HB13.out⟩

end Go.Proofs.YtagbaimfigljiaaGreatDoor.aliasesSame
namespace Go.Proofs.YtagbaimfigljiaaGreatDoor.aliasesSame
open Go.ChangeShapes Go.WideShapes Go.ChangeAt Go.RowKit
set_option maxRecDepth 100000
open Go.ChangeMaps (open_string shut_string)

theorem own : ownKnob Tryz.prog.godebug = none := by kernel_rfl
theorem cellsRaw : Tryz.prog.cellsOf 59 = 4 := by kernel_rfl
theorem cellsInt : Tryz.prog.cellsOf 3 = 1 := by kernel_rfl

theorem raw_read {H : Type} {enc : TypeId × Value → H} {W : World} {base : Nat} {spare : Nat → Bool} {held : Bool} (fuel : Nat) (cs : List Value) (x : DataW H × List MemPlace) (h : DataW.trod enc Tryz.prog W base spare held fuel 59 cs = some x) :
    ∃ a b c d, cs = [.int .i64 a, .int .i64 b, .int .i64 c, .int .i64 d] ∧ (Lit.int .i64 b).wf = true ∧ (Lit.int .i64 c).wf = true := by
  obtain ⟨ys, n, _, _, hlen, hyl0, hf⟩ := DataW.trod_struct Tryz.underlying59 h
  rw [cellsRaw] at hlen
  match cs, hlen with
  | [v0, v1, v2, v3], _ =>
    have g0 : DataW.trod enc Tryz.prog W base spare held n 3 (([v0, v1, v2, v3].drop 0).take (Tryz.prog.cellsOf 3)) = ys[0]? := hf 0 _ rfl
    have g1 : DataW.trod enc Tryz.prog W base spare held n 3 (([v0, v1, v2, v3].drop 1).take (Tryz.prog.cellsOf 3)) = ys[1]? := hf 1 _ rfl
    have g2 : DataW.trod enc Tryz.prog W base spare held n 3 (([v0, v1, v2, v3].drop 2).take (Tryz.prog.cellsOf 3)) = ys[2]? := hf 2 _ rfl
    have g3 : DataW.trod enc Tryz.prog W base spare held n 3 (([v0, v1, v2, v3].drop 3).take (Tryz.prog.cellsOf 3)) = ys[3]? := hf 3 _ rfl
    rw [cellsInt] at g0 g1 g2 g3
    have hyl : ys.length = 4 := hyl0
    obtain ⟨y0, e0⟩ : ∃ y, ys[0]? = some y := ⟨_, List.getElem?_eq_getElem (by omega)⟩
    obtain ⟨y1, e1⟩ : ∃ y, ys[1]? = some y := ⟨_, List.getElem?_eq_getElem (by omega)⟩
    obtain ⟨y2, e2⟩ : ∃ y, ys[2]? = some y := ⟨_, List.getElem?_eq_getElem (by omega)⟩
    obtain ⟨y3, e3⟩ : ∃ y, ys[3]? = some y := ⟨_, List.getElem?_eq_getElem (by omega)⟩
    obtain ⟨k0, h0, _, w0⟩ := DataW.trod_int Tryz.underlying3 (g0.trans e0)
    obtain ⟨k1, h1, _, w1⟩ := DataW.trod_int Tryz.underlying3 (g1.trans e1)
    obtain ⟨k2, h2, _, w2⟩ := DataW.trod_int Tryz.underlying3 (g2.trans e2)
    obtain ⟨k3, h3, _, w3⟩ := DataW.trod_int Tryz.underlying3 (g3.trans e3)
    simp at h0 h1 h2 h3
    subst h0 h1 h2 h3
    exact ⟨k0, k1, k2, k3, rfl, w1, w2⟩

theorem laidOut : laidOutB Tryz.prog = true := laidBut

abbrev laidRows : List (String × DataW Unit) := Rows.aliasesSameRow.laid

theorem laid_met (os : Os) (args : Array Value) : laidMetH Tryz.prog laidRows ((World.laidAll Tryz.prog os laidRows).forCall (fun _ _ => 0) ⟨#[], args, []⟩).memory := by
  rw [MakeChecks.laidMetH_plain _ _ _ (by kernel_rfl)]
  exact laidMet_laidAll _ (by kernel_rfl) (by kernel_rfl)

set_option maxRecDepth 100000 in
theorem lifted (os : Os) (started : os.Started) (H : Type) (enc : TypeId × Value → H) :
    ReturnsInHanded {} Tryz.checked os 8 .any (fun w args => (Rows.aliasesSameSpec.pre enc Tryz.prog Tryz.f8 [] false w args ∧ laidMetH Tryz.prog laidRows w) ∧ sizedMet enc Tryz.prog Tryz.f8 (OpenSpec.ofChange Rows.aliasesSameSpec) false w args)
      (Rows.aliasesSameSpec.post enc Tryz.prog Tryz.f8 false true false false) := by
  refine returnsInHanded_of_change_and (C := Tryz.checked) (X := fun w _ => laidMetH Tryz.prog laidRows w) (fun _ _ _ hh h => h.of_heap hh) own started (by kernel_rfl) Tryz.func8
    (ChangeSpec.witness_shaped (enc := enc) (C := Tryz.checked) (os := os) (X := fun w _ => laidMetH Tryz.prog laidRows w) false (World.laidAll Tryz.prog os laidRows) #[.agg #[.int .i64 0, .int .i64 0, .int .i64 0, .int .i64 0], .int .i64 0] 8 rfl (World.shaped_of_ZipB (by kernel_rfl) (by kernel_rfl)) (by kernel_rfl) (by kernel_rfl) (by kernel_rfl) (laid_met os _)) ?_
  intro W base args ds gs before hval0 hW _ hsz hL _
  have hval : ∀ (j : Nat) t v, Tryz.f8.params[j]? = some t → args[j]? = some v → Value.okWide Tryz.prog W .any base t v := hval0
  have hW' := hW
  obtain ⟨p, q, hA0, hV, rfl, hfz, hnd⟩ := hW
  have hA : DataW.TrodAll enc Tryz.prog W 0 (fun _ => true) true Tryz.f8.params.toList args.toList ds p := hA0
  rw [Tryz.params8] at hA hval
  obtain ⟨v0, vs0, d0, ds0, p0, q0, hargs0, rfl, rfl, h0, r0⟩ := trodAll_cons hA
  obtain ⟨v1, vs1, d1, ds1, p1, q1, hargs1, rfl, rfl, h1, r1⟩ := trodAll_cons r0
  obtain ⟨rfl, rfl, rfl⟩ := trodAll_nil r1
  obtain rfl : args = #[v0, v1] := by cases args; simp_all
  obtain ⟨rfl, rfl⟩ := trodVars_none hV
  obtain ⟨cs0, rfl, _⟩ := okWide_struct Tryz.underlying59 (hval 0 59 v0 rfl rfl)
  have k0 := h0
  have lt0 : ∀ x ∈ p0, x.block < W.heap.size := by obtain ⟨m, hm⟩ := k0; exact DataW.trod_lt m _ _ _ hm
  obtain ⟨x0, y0, z0, u0, rfl, wy0, wz0⟩ : ∃ a b c d, cs0 = #[.int .i64 a, .int .i64 b, .int .i64 c, .int .i64 d] ∧ (Lit.int .i64 b).wf = true ∧ (Lit.int .i64 c).wf = true := by
    obtain ⟨fuel, hf⟩ := h0
    obtain ⟨a, b, c, d, hcs, wb, wc⟩ := raw_read fuel _ _ hf
    refine ⟨a, b, c, d, ?_, wb, wc⟩
    have : cs0.toList = [.int .i64 a, .int .i64 b, .int .i64 c, .int .i64 d] := hcs
    cases cs0; simp_all
  obtain ⟨a1, rfl, rfl, rfl, w1⟩ := open_int Tryz.underlying3 (hval 1 3 v1 rfl rfl) h1
  clear hA0 hval0 hsz hL
  simp only [List.append_nil] at hW'
  refine (walk x0 y0 z0 u0 wy0 wz0 a1 w1 W).mono fun e W' ⟨he, bel⟩ => ?_
  subst he
  exact ⟨_, rfl, _, _, _, [], _, [], hW', trodAll_mk1 (shut_bool Tryz.underlying4 _), (trodAll_cons_mk (Below.trod laidOut (by kernel_rfl) (of_decide_eq_true (by kernel_rfl)) k0 bel lt0) (trodAll_cons_mk (shut_int Tryz.underlying3 w1) trodAll_mk0)), rfl, bel.frame _, fun h => by cases h⟩

theorem over : Rows.AliasesSameSaid :=
  OpenClaim.holds_of_wide 8 Tryz.f8 rfl rfl rfl rfl rfl rfl rfl ⟨rfl, rfl, rfl, rfl, rfl⟩ rfl rfl rfl rfl rfl named Tryz.func8 closed inst wrap
    (fun os started H enc _ => lifted os started H enc)

theorem proved : Rows.AliasesSameCardSaid :=
  Claim7.holds_tied_plain_at .later [] [.data, .data, .data, .data, .sentinel, .sentinel, .pinned] true (true, "89924557b17f9ccb6b44d3a0bc7c3e5a3c527105e4d42c0ac174a6be0c85f341") true
    over (fun _ h => by cases h) byText (fun _ h => by cases h) aliasesSame_row_tie rfl ⟨rfl, rfl⟩ mainOk rfl
    (fun f fn hf hfn => by
      obtain rfl : f = 8 := Option.some.inj (named.symm.trans hf) |>.symm
      obtain rfl : fn = Tryz.f8 := (Option.some.inj (Tryz.func8.symm.trans hfn)).symm
      exact ⟨looksOk, fun j t ht => by
        rw [Tryz.params8] at ht
        have hm : t ∈ [59, 3] := by simpa using Array.mem_of_getElem? ht
        exact (show Tryz.prog.wantsStandIn t = false by simpa using List.all_eq_true.1 standIns t hm)⟩)
    goesOk
#print axioms proved
end Go.Proofs.YtagbaimfigljiaaGreatDoor.aliasesSame
