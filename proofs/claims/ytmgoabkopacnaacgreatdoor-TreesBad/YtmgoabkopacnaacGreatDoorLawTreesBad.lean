/- Of every number: a text that is no declaration is refused, a text that is too deep is refused, one that is not is read (TreesBad); the library's tables that the row lists are tied to the program's text (a tied card). -/
import Derived.Test.YtmgoabkopacnaacGreatDoorOddTexts
import Derived.Test.YtmgoabkopacnaacGreatDoorCards
import Derived.Test.YtmgoabkopacnaacGreatDoorTie
import Derived.ProofKit
import Derived.Lay
import Derived.LaidMore
import Derived.OpenShut
import Derived.ChangeOld
import Derived.Stop.Joined
import Derived.SevenTiedAt
import Derived.SizedLaws
namespace Go.Proofs.YtmgoabkopacnaacGreatDoor.treesBad
open Go.ChangeShapes Go.WideShapes Go.ChangeAt Go.RowKit
set_option maxRecDepth 100000

theorem own : ownKnob Tryz.prog.godebug = none := by kernel_rfl

theorem picked_bad (n : Int) (hn : (Lit.int .i64 n).wf = true) : ∃ k : Nat, k < 24 ∧ ∀ w : World, Calls Tryz.prog 5 #[.int .i64 n, .int .i64 24] w fun e w' => e = .returned (.int .i64 k) ∧ w = w' := by
  have hx : -9223372036854775808 ≤ n ∧ n ≤ 9223372036854775807 := by simpa [Lit.wf, IntKind.min, IntKind.max, IntKind.signed, IntKind.bits] using hn
  obtain ⟨hx0, hx1⟩ := hx
  clear hn
  by_cases hneg : n < 0
  · have e : -((n + 1).tmod 24) = (((-(n + 1)) % 24).toNat : Int) := by
      rw [← Int.neg_tmod, Int.tmod_eq_emod_of_nonneg (by omega), Int.toNat_of_nonneg (Int.emod_nonneg _ (by omega))]
    have hk : ((-(n + 1)) % 24).toNat < 24 := by omega
    have HE := veil e
    refine ⟨_, hk, fun w => ?_⟩
    clear e hk
    go_enter Tryz.func5, Tryz.ntmps5
    go_wp2
    go_ret
    exact ⟨by rw [← HE.out]; rfl, rfl⟩
  · obtain ⟨k, he⟩ := Int.eq_ofNat_of_zero_le (Int.emod_nonneg n (show (24 : Int) ≠ 0 by omega))
    have hk : k < 24 := by omega
    have e : n.tmod 24 = (k : Int) := by rw [Int.tmod_eq_emod_of_nonneg (by omega), he]
    have HE := veil e
    have HE' := veil he
    refine ⟨k, hk, fun w => ?_⟩
    clear e he hk
    go_enter Tryz.func5, Tryz.ntmps5
    go_wp2
    go_ret
    exact ⟨by first | (rw [← HE.out]; rfl) | (rw [← HE'.out]; rfl), rfl⟩

theorem odd_get (k : Nat) (hk : k < 24) : (#[.string ⟨#[117, 115, 101]⟩, .string ⟨#[117, 115, 101, 32, 105, 110, 116]⟩, .string ⟨#[117, 115, 101, 32, 97, 32, 98]⟩, .string ⟨#[116, 121, 112, 101, 32, 97]⟩, .string ⟨#[116, 121, 112, 101, 32, 97, 32, 61]⟩, .string ⟨#[116, 121, 112, 101, 32, 97, 32, 61, 32, 91, 105, 110, 116]⟩, .string ⟨#[116, 121, 112, 101, 32, 97, 32, 61, 32, 105, 110, 116, 93]⟩, .string ⟨#[116, 121, 112, 101, 32, 102, 117, 110, 99, 32, 61, 32, 105, 110, 116]⟩, .string ⟨#[102, 117, 110, 99, 32, 97]⟩, .string ⟨#[102, 117, 110, 99, 32, 97, 40, 41, 58, 32, 105, 110, 116]⟩, .string ⟨#[102, 117, 110, 99, 32, 97, 40, 58, 32, 105, 110, 116, 32, 61, 32, 49]⟩, .string ⟨#[102, 117, 110, 99, 32, 97, 40, 112, 32, 105, 110, 116, 41, 58, 32, 105, 110, 116, 32, 61, 32, 49]⟩, .string ⟨#[102, 117, 110, 99, 32, 97, 40, 112, 58, 32, 105, 110, 116, 44, 41, 58, 32, 105, 110, 116, 32, 61, 32, 49]⟩, .string ⟨#[102, 117, 110, 99, 32, 97, 60, 62, 40, 41, 58, 32, 105, 110, 116, 32, 61, 32, 49]⟩, .string ⟨#[102, 117, 110, 99, 32, 97, 40, 41, 58, 32, 105, 110, 116, 32, 61, 32, 49, 32, 43]⟩, .string ⟨#[102, 117, 110, 99, 32, 97, 40, 41, 58, 32, 105, 110, 116, 32, 61, 32, 43, 32, 49]⟩, .string ⟨#[102, 117, 110, 99, 32, 97, 40, 41, 58, 32, 105, 110, 116, 32, 61, 32, 91]⟩, .string ⟨#[102, 117, 110, 99, 32, 97, 40, 41, 58, 32, 105, 110, 116, 32, 61, 32, 91, 93]⟩, .string ⟨#[102, 117, 110, 99, 32, 97, 40, 41, 58, 32, 105, 110, 116, 32, 61, 32, 98, 46, 99]⟩, .string ⟨#[102, 117, 110, 99, 32, 97, 40, 41, 58, 32, 105, 110, 116, 32, 61, 32, 40, 49]⟩, .string ⟨#[102, 117, 110, 99, 32, 97, 40, 41, 58, 32, 105, 110, 116, 32, 61, 32, 112, 91]⟩, .string ⟨#[108, 101, 116, 32, 97, 32, 61, 32, 49]⟩, .string ⟨#[49]⟩, .string ⟨#[97]⟩] : Array Value)[k]? = some (.string (oddText k)) := by
  obtain rfl | rfl | rfl | rfl | rfl | rfl | rfl | rfl | rfl | rfl | rfl | rfl | rfl | rfl | rfl | rfl | rfl | rfl | rfl | rfl | rfl | rfl | rfl | rfl : k = 0 ∨ k = 1 ∨ k = 2 ∨ k = 3 ∨ k = 4 ∨ k = 5 ∨ k = 6 ∨ k = 7 ∨ k = 8 ∨ k = 9 ∨ k = 10 ∨ k = 11 ∨ k = 12 ∨ k = 13 ∨ k = 14 ∨ k = 15 ∨ k = 16 ∨ k = 17 ∨ k = 18 ∨ k = 19 ∨ k = 20 ∨ k = 21 ∨ k = 22 ∨ k = 23 := by omega
  all_goals rfl

theorem odd_size : ∀ k < 24, (oddText k).size ≤ 30 := by decide +kernel

theorem mo_slices {S : Nat → Prop} {w : World} {m : Mo} {v : Value} (h : MoIs S w m v) : ∃ a1 c1 a2 c2 a3 c3, v = .agg #[.slice a1 m.uses.length c1, .slice a2 m.types.length c2, .slice a3 m.funcs.length c3] := by
  obtain ⟨vu, vt, vf, rfl, ⟨a1, c1, rfl, _⟩, ⟨a2, c2, rfl, _⟩, ⟨a3, c3, rfl, _⟩⟩ := h
  exact ⟨a1, c1, a2, c2, a3, c3, rfl⟩

theorem deep_size : (deepText 40).size = 81 := by decide +kernel
theorem deep_in : (deepText 40).extract 1 80 = deepText 39 := by decide +kernel
theorem deep_size' : (deepText 39).size = 79 := by decide +kernel
theorem rep_sizes : (⟨(Lib.repeatL [40] 40).toArray⟩ : ByteArray).size = 40 ∧ (⟨(Lib.repeatL [41] 40).toArray⟩ : ByteArray).size = 40 := by decide +kernel

set_option maxHeartbeats 8000000 in
theorem walk (n : Int) (hn : (Lit.int .i64 n).wf = true) (w : World) :
    Calls Tryz.prog 3 #[.int .i64 n] w fun e w' => e = .returned (.bool true) ∧ Below w.heap.size w w' := by
  obtain ⟨k, hk, hp⟩ := picked_bad n hn
  have HP := veil hp
  have hget := odd_get k hk
  have hsz := odd_size k hk
  obtain ⟨hE, hM⟩ := odd_bad k hk
  have hcell : (w.alloc (.cells #[.string ⟨#[117, 115, 101]⟩, .string ⟨#[117, 115, 101, 32, 105, 110, 116]⟩, .string ⟨#[117, 115, 101, 32, 97, 32, 98]⟩, .string ⟨#[116, 121, 112, 101, 32, 97]⟩, .string ⟨#[116, 121, 112, 101, 32, 97, 32, 61]⟩, .string ⟨#[116, 121, 112, 101, 32, 97, 32, 61, 32, 91, 105, 110, 116]⟩, .string ⟨#[116, 121, 112, 101, 32, 97, 32, 61, 32, 105, 110, 116, 93]⟩, .string ⟨#[116, 121, 112, 101, 32, 102, 117, 110, 99, 32, 61, 32, 105, 110, 116]⟩, .string ⟨#[102, 117, 110, 99, 32, 97]⟩, .string ⟨#[102, 117, 110, 99, 32, 97, 40, 41, 58, 32, 105, 110, 116]⟩, .string ⟨#[102, 117, 110, 99, 32, 97, 40, 58, 32, 105, 110, 116, 32, 61, 32, 49]⟩, .string ⟨#[102, 117, 110, 99, 32, 97, 40, 112, 32, 105, 110, 116, 41, 58, 32, 105, 110, 116, 32, 61, 32, 49]⟩, .string ⟨#[102, 117, 110, 99, 32, 97, 40, 112, 58, 32, 105, 110, 116, 44, 41, 58, 32, 105, 110, 116, 32, 61, 32, 49]⟩, .string ⟨#[102, 117, 110, 99, 32, 97, 60, 62, 40, 41, 58, 32, 105, 110, 116, 32, 61, 32, 49]⟩, .string ⟨#[102, 117, 110, 99, 32, 97, 40, 41, 58, 32, 105, 110, 116, 32, 61, 32, 49, 32, 43]⟩, .string ⟨#[102, 117, 110, 99, 32, 97, 40, 41, 58, 32, 105, 110, 116, 32, 61, 32, 43, 32, 49]⟩, .string ⟨#[102, 117, 110, 99, 32, 97, 40, 41, 58, 32, 105, 110, 116, 32, 61, 32, 91]⟩, .string ⟨#[102, 117, 110, 99, 32, 97, 40, 41, 58, 32, 105, 110, 116, 32, 61, 32, 91, 93]⟩, .string ⟨#[102, 117, 110, 99, 32, 97, 40, 41, 58, 32, 105, 110, 116, 32, 61, 32, 98, 46, 99]⟩, .string ⟨#[102, 117, 110, 99, 32, 97, 40, 41, 58, 32, 105, 110, 116, 32, 61, 32, 40, 49]⟩, .string ⟨#[102, 117, 110, 99, 32, 97, 40, 41, 58, 32, 105, 110, 116, 32, 61, 32, 112, 91]⟩, .string ⟨#[108, 101, 116, 32, 97, 32, 61, 32, 49]⟩, .string ⟨#[49]⟩, .string ⟨#[97]⟩] 9)).cell? ⟨w.heap.size, k, none⟩ = some (.string (oddText k)) := by rw [World.cell?_alloc_new]; exact hget
  have hk' : (k : Int) < 24 := by omega
  have hk0 : (0 : Int) ≤ (k : Int) := by omega
  have HB0 : Hid (Below w.heap.size w (w.alloc (.cells #[.string ⟨#[117, 115, 101]⟩, .string ⟨#[117, 115, 101, 32, 105, 110, 116]⟩, .string ⟨#[117, 115, 101, 32, 97, 32, 98]⟩, .string ⟨#[116, 121, 112, 101, 32, 97]⟩, .string ⟨#[116, 121, 112, 101, 32, 97, 32, 61]⟩, .string ⟨#[116, 121, 112, 101, 32, 97, 32, 61, 32, 91, 105, 110, 116]⟩, .string ⟨#[116, 121, 112, 101, 32, 97, 32, 61, 32, 105, 110, 116, 93]⟩, .string ⟨#[116, 121, 112, 101, 32, 102, 117, 110, 99, 32, 61, 32, 105, 110, 116]⟩, .string ⟨#[102, 117, 110, 99, 32, 97]⟩, .string ⟨#[102, 117, 110, 99, 32, 97, 40, 41, 58, 32, 105, 110, 116]⟩, .string ⟨#[102, 117, 110, 99, 32, 97, 40, 58, 32, 105, 110, 116, 32, 61, 32, 49]⟩, .string ⟨#[102, 117, 110, 99, 32, 97, 40, 112, 32, 105, 110, 116, 41, 58, 32, 105, 110, 116, 32, 61, 32, 49]⟩, .string ⟨#[102, 117, 110, 99, 32, 97, 40, 112, 58, 32, 105, 110, 116, 44, 41, 58, 32, 105, 110, 116, 32, 61, 32, 49]⟩, .string ⟨#[102, 117, 110, 99, 32, 97, 60, 62, 40, 41, 58, 32, 105, 110, 116, 32, 61, 32, 49]⟩, .string ⟨#[102, 117, 110, 99, 32, 97, 40, 41, 58, 32, 105, 110, 116, 32, 61, 32, 49, 32, 43]⟩, .string ⟨#[102, 117, 110, 99, 32, 97, 40, 41, 58, 32, 105, 110, 116, 32, 61, 32, 43, 32, 49]⟩, .string ⟨#[102, 117, 110, 99, 32, 97, 40, 41, 58, 32, 105, 110, 116, 32, 61, 32, 91]⟩, .string ⟨#[102, 117, 110, 99, 32, 97, 40, 41, 58, 32, 105, 110, 116, 32, 61, 32, 91, 93]⟩, .string ⟨#[102, 117, 110, 99, 32, 97, 40, 41, 58, 32, 105, 110, 116, 32, 61, 32, 98, 46, 99]⟩, .string ⟨#[102, 117, 110, 99, 32, 97, 40, 41, 58, 32, 105, 110, 116, 32, 61, 32, 40, 49]⟩, .string ⟨#[102, 117, 110, 99, 32, 97, 40, 41, 58, 32, 105, 110, 116, 32, 61, 32, 112, 91]⟩, .string ⟨#[108, 101, 116, 32, 97, 32, 61, 32, 49]⟩, .string ⟨#[49]⟩, .string ⟨#[97]⟩] 9))) := (Below.refl _ _).alloc (Nat.le_refl _) _
  have hlim : ¬ 9223372036854775807 < (oddText k).size + 1 := by omega
  have HRe := veil (fun W => read_all (oddText k ++ ⟨#[10]⟩) W)
  have HE := veil hE
  have HM := veil hM
  clear hp hn hE hM hk
  generalize oddText k = t at *
  go_enter Tryz.func3, Tryz.ntmps3
  go_wp2_with fail
  refine (HP.out _).mono ?_
  rintro e w' ⟨rfl, rfl⟩
  go_wp2_with fail
  refine (HRe.out _).mono ?_
  rintro e w1 ⟨hb1, v1, rfl, hmo⟩
  obtain ⟨a1, c1, a2, c2, a3, c3, rfl⟩ := mo_slices hmo
  have l1 : (readMo (t ++ ⟨#[10]⟩)).uses.length = 0 := by have := HM.out; omega
  have l2 : (readMo (t ++ ⟨#[10]⟩)).types.length = 0 := by have := HM.out; omega
  have l3 : (readMo (t ++ ⟨#[10]⟩)).funcs.length = 0 := by have := HM.out; omega
  rw [HE.out, l1, l2, l3]
  have hbw1 : Below w.heap.size w w1 := HB0.out.trans (hb1.mono (by simp))
  have hbw2 : Below w.heap.size w (w1.alloc (.cells #[.slice a1 0 c1, .slice a2 0 c2, .slice a3 0 c3] 26)) := hbw1.alloc hbw1.size _
  have hw2 : ∃ w2, w1.alloc (.cells #[.slice a1 0 c1, .slice a2 0 c2, .slice a3 0 c3] 26) = w2 ∧ w2.cell? ⟨w1.heap.size, 0, none⟩ = some (.slice a1 0 c1) ∧ w2.cell? ⟨w1.heap.size, 1, none⟩ = some (.slice a2 0 c2) ∧ w2.cell? ⟨w1.heap.size, 2, none⟩ = some (.slice a3 0 c3) ∧ w1.heap.size < w2.heap.size :=
    ⟨_, rfl, World.cell?_alloc_at _ _ _ _ rfl, World.cell?_alloc_at _ _ _ _ rfl, World.cell?_alloc_at _ _ _ _ rfl, by simp⟩
  obtain ⟨w2, hwe, m0, m1, m2, hs2⟩ := hw2
  rw [hwe] at hbw2
  have HB2 := veil hbw2
  have HMc := veil (show ∀ W, Below w2.heap.size w2 W → W.cell? ⟨w1.heap.size, 0, none⟩ = some (.slice a1 0 c1) ∧ W.cell? ⟨w1.heap.size, 1, none⟩ = some (.slice a2 0 c2) ∧ W.cell? ⟨w1.heap.size, 2, none⟩ = some (.slice a3 0 c3) from fun W h => ⟨(h.cell (p := ⟨w1.heap.size, 0, none⟩) hs2).trans m0, (h.cell (p := ⟨w1.heap.size, 1, none⟩) hs2).trans m1, (h.cell (p := ⟨w1.heap.size, 2, none⟩) hs2).trans m2⟩)
  have HR1 := veil (fun W => Tryz.strings_Repeat ⟨#[40]⟩ 40 W (by omega) (by show 1 * 40 ≤ _; omega))
  have HR2 := veil (fun W => Tryz.strings_Repeat ⟨#[41]⟩ 40 W (by omega) (by show 1 * 40 ≤ _; omega))
  have e40 : (⟨#[40]⟩ : ByteArray).data.toList = [40] := rfl
  have e41 : (⟨#[41]⟩ : ByteArray).data.toList = [41] := rfl
  rw [e40] at HR1
  rw [e41] at HR2
  obtain ⟨z1, z2⟩ := rep_sizes
  have hD : (⟨(Lib.repeatL [40] 40).toArray⟩ : ByteArray) ++ ⟨#[49]⟩ ++ ⟨(Lib.repeatL [41] 40).toArray⟩ = deepText 40 := rfl
  have hDs := deep_size
  have hDs' := deep_size'
  have hsl : ∀ wx : World, (Instr.slice 9 (.string (deepText 40)) (some (.int .i64 1)) (some (.int .i64 80)) none).run Tryz.prog wx = .ok (.string (deepText 39)) wx := by
    intro wx
    have := run_slice_string (P := Tryz.prog) wx 9 (deepText 40) .i64 .i64 1 80 Tryz.underlying9 (by omega) (by omega) (by rw [hDs]; omega)
    rw [this]
    exact congrArg (fun x => Result.ok (Value.string x) wx) deep_in
  have HF := veil (fun W => read_all (⟨#[102, 117, 110, 99, 32, 97, 40, 41, 58, 32, 105, 110, 116, 32, 61, 32]⟩ ++ deepText 40) W)
  have HG := veil (fun W => read_all (⟨#[102, 117, 110, 99, 32, 97, 40, 41, 58, 32, 105, 110, 116, 32, 61, 32]⟩ ++ deepText 39) W)
  have HFe : Hid (readErr (⟨#[102, 117, 110, 99, 32, 97, 40, 41, 58, 32, 105, 110, 116, 32, 61, 32]⟩ ++ deepText 40) = 1) := deep_bad
  have HGe : Hid (readErr (⟨#[102, 117, 110, 99, 32, 97, 40, 41, 58, 32, 105, 110, 116, 32, 61, 32]⟩ ++ deepText 39) = 0) := deep_ok
  clear hb1 hmo l1 l2 l3 HRe HE HM HB0 HP hget hcell hk' hk0 hlim hbw1 hbw2 e40 e41 m0 m1 m2
  generalize (⟨(Lib.repeatL [40] 40).toArray⟩ : ByteArray) = A at *
  generalize (⟨(Lib.repeatL [41] 40).toArray⟩ : ByteArray) = Bq at *
  generalize deepText 40 = D at *
  generalize deepText 39 = D' at *
  go_wp2_with fail
  try rw [hwe]
  refine (HR1.out _).mono ?_
  rintro e w3 ⟨rfl, hb3⟩
  have HB3 := veil (show Below w2.heap.size w2 w3 from hb3)
  clear hb3 HR1
  go_wp2_with fail
  refine (HR2.out _).mono ?_
  rintro e w4 ⟨rfl, hb4⟩
  have HB4 := veil (HB3.out.trans (hb4.mono HB3.out.size))
  clear hb4 HR2 HB3
  have hlA : ¬ 9223372036854775807 < A.size + 1 := by omega
  go_wp2_with fail
  refine (HF.out _).mono ?_
  rintro e w5 ⟨hb5, v5, rfl, hmo5⟩
  obtain ⟨b1, d1, b2, d2, b3, d3, rfl⟩ := mo_slices hmo5
  rw [HFe.out]
  have HB5 := veil (HB4.out.trans (hb5.mono HB4.out.size))
  clear hb5 hmo5 HF HFe HB4
  generalize (readMo (⟨#[102, 117, 110, 99, 32, 97, 40, 41, 58, 32, 105, 110, 116, 32, 61, 32]⟩ ++ D)).uses.length = q1 at *
  generalize (readMo (⟨#[102, 117, 110, 99, 32, 97, 40, 41, 58, 32, 105, 110, 116, 32, 61, 32]⟩ ++ D)).types.length = q2 at *
  generalize (readMo (⟨#[102, 117, 110, 99, 32, 97, 40, 41, 58, 32, 105, 110, 116, 32, 61, 32]⟩ ++ D)).funcs.length = q3 at *
  have HB6 : Hid (Below w2.heap.size w2 (w5.alloc (.cells #[.slice b1 q1 d1, .slice b2 q2 d2, .slice b3 q3 d3] 26))) := HB5.out.alloc HB5.out.size _
  go_wp2_with fail
  generalize w5.alloc (.cells #[.slice b1 q1 d1, .slice b2 q2 d2, .slice b3 q3 d3] 26) = w6 at *
  refine (HG.out _).mono ?_
  rintro e w7 ⟨hb7, v7, rfl, hmo7⟩
  obtain ⟨b4, d4, b5, d5, b6, d6, rfl⟩ := mo_slices hmo7
  rw [HGe.out]
  have HB7 := veil (HB6.out.trans (hb7.mono HB6.out.size))
  clear hb7 hmo7 HG HGe HB6 HB5
  generalize (readMo (⟨#[102, 117, 110, 99, 32, 97, 40, 41, 58, 32, 105, 110, 116, 32, 61, 32]⟩ ++ D')).uses.length = q4 at *
  generalize (readMo (⟨#[102, 117, 110, 99, 32, 97, 40, 41, 58, 32, 105, 110, 116, 32, 61, 32]⟩ ++ D')).types.length = q5 at *
  generalize (readMo (⟨#[102, 117, 110, 99, 32, 97, 40, 41, 58, 32, 105, 110, 116, 32, 61, 32]⟩ ++ D')).funcs.length = q6 at *
  have HB8 : Hid (Below w2.heap.size w2 (w7.alloc (.cells #[.slice b4 q4 d4, .slice b5 q5 d5, .slice b6 q6 d6] 26))) := HB7.out.alloc HB7.out.size _
  obtain ⟨n0, n1, n2⟩ := HMc.out _ HB8.out
  have HFin := veil (HB2.out.trans (HB8.out.mono HB2.out.size))
  clear HB7 HB8 HMc HB2
  go_wp2_with fail
  go_ret
  exact ⟨rfl, HFin.out⟩

/-! ### The row, and the card -/

abbrev laidRows : List (String × DataW Unit) := Rows.treesBadRow.laid

theorem laid_met (os : Os) (args : Array Value) : laidMetH Tryz.prog laidRows ((World.laidAll Tryz.prog os laidRows).forCall (fun _ _ => 0) ⟨#[], args, []⟩).memory := by
  rw [MakeChecks.laidMetH_plain _ _ _ (by kernel_rfl)]
  exact laidMet_laidAll _ (by kernel_rfl) (by kernel_rfl)

set_option maxRecDepth 100000 in
theorem lifted (os : Os) (started : os.Started) (H : Type) (enc : TypeId × Value → H) :
    ReturnsInHanded {} Tryz.checked os 3 .any (fun w args => (Rows.treesBadSpec.pre enc Tryz.prog Tryz.f3 [] false w args ∧ laidMetH Tryz.prog laidRows w) ∧ sizedMet enc Tryz.prog Tryz.f3 (OpenSpec.ofChange Rows.treesBadSpec) false w args)
      (Rows.treesBadSpec.post enc Tryz.prog Tryz.f3 false true false false) := by
  refine returnsInHanded_of_change_and (C := Tryz.checked) (X := fun w _ => laidMetH Tryz.prog laidRows w) (fun _ _ _ hh h => h.of_heap hh) own started (by kernel_rfl) Tryz.func3
    (ChangeSpec.witness_shaped (enc := enc) (C := Tryz.checked) (os := os) (X := fun w _ => laidMetH Tryz.prog laidRows w) false (World.laidAll Tryz.prog os laidRows) #[.int .i64 0] 8 rfl (World.shaped_of_ZipB (by kernel_rfl) (by kernel_rfl)) (by kernel_rfl) (by kernel_rfl) (by kernel_rfl) (laid_met os _)) ?_
  intro W base args ds gs before hval0 hW _ hsz hL _
  have hval : ∀ (j : Nat) t v, Tryz.f3.params[j]? = some t → args[j]? = some v → Value.okWide Tryz.prog W .any base t v := hval0
  have hW' := hW
  obtain ⟨p, q, hA0, hV, rfl, hfz, hnd⟩ := hW
  have hA : DataW.TrodAll enc Tryz.prog W 0 (fun _ => true) true Tryz.f3.params.toList args.toList ds p := hA0
  rw [Tryz.params3] at hA hval
  obtain ⟨v0, vs0, d0, ds0, p0, q0, hargs, rfl, rfl, h0, r0⟩ := trodAll_cons hA
  obtain ⟨rfl, rfl, rfl⟩ := trodAll_nil r0
  obtain rfl : args = #[v0] := by cases args; simp_all
  obtain ⟨rfl, rfl⟩ := trodVars_none hV
  obtain ⟨a0, rfl, rfl, rfl, w0⟩ := open_int Tryz.underlying3 (hval 0 3 v0 rfl rfl) h0
  clear hA0 hval0 hsz hL
  simp only [List.append_nil] at hW'
  refine (walk a0 w0 W).mono fun e W' ⟨he, hg⟩ => ?_
  subst he
  refine ⟨_, rfl, _, _, _, [], [], [], hW', ?_, ?_, ?_, hg.frame _, fun h => by cases h⟩
  · exact trodAll_cons_mk (shut_bool Tryz.underlying4 _) trodAll_mk0
  · exact trodAll_cons_mk (shut_int Tryz.underlying3 w0) trodAll_mk0
  · rfl

theorem over : Rows.TreesBadSaid :=
  OpenClaim.holds_of_wide 3 Tryz.f3 rfl rfl rfl rfl rfl rfl rfl ⟨rfl, rfl, rfl, rfl, rfl⟩ rfl rfl rfl rfl rfl (by kernel_rfl) Tryz.func3 (by kernel_rfl)
    (of_decide_eq_true (by kernel_rfl)) (by unfold Func.isWrapper; first | (rw [if_pos (by decide +kernel)]; kernel_rfl) | (rw [if_neg (by decide +kernel)]; exact ⟨rfl, rfl⟩))
    (fun os started H enc _ => lifted os started H enc)

theorem proved : Rows.TreesBadCardSaid :=
  Claim7.holds_tied_plain_at .later [] [.data, .data, .data, .data, .sentinel, .sentinel, .pinned] true (true, "6b2792e6b096cf64ee1713a8c9257db6dfaba66bb065561d4ee05c4cf9d37873") true
    over (fun _ h => by cases h) (by kernel_rfl) (fun _ h => by cases h) treesBad_row_tie rfl ⟨rfl, rfl⟩ (by kernel_rfl) rfl
    (fun f fn hf hfn => by
      obtain rfl : f = 3 := Option.some.inj ((show Tryz.prog.funcNamed "scullery/scullerykeep.TreesBad" = some 3 by kernel_rfl).symm.trans hf) |>.symm
      obtain rfl : fn = Tryz.f3 := (Option.some.inj (Tryz.func3.symm.trans hfn)).symm
      exact ⟨by kernel_rfl, fun j t ht => by
        rw [Tryz.params3] at ht
        have hm : t ∈ [3] := by simpa using Array.mem_of_getElem? ht
        have hall : ([3].all fun u => !Tryz.prog.wantsStandIn u) = true := by kernel_rfl
        exact (show Tryz.prog.wantsStandIn t = false by simpa using List.all_eq_true.1 hall t hm)⟩)
    (by kernel_rfl)
#print axioms proved
end Go.Proofs.YtmgoabkopacnaacGreatDoor.treesBad
