/- What scullerykeep.Kind answers, at every raw thing: one of twelve kinds. -/
import Derived.Test.YtpamadnckijfkadDoorKindBack0
import Derived.Test.YtpamadnckijfkadDoorKindBack1
import Derived.Test.YtpamadnckijfkadDoorKindBack2
import Derived.Deep.Slices
namespace Go.Proofs.YtpamadnckijfkadDoor
open Go.RowKit
set_option maxRecDepth 100000

theorem rep_sizeK (b : UInt8) (n : Nat) : (⟨(Lib.repeatL [b] n).toArray⟩ : ByteArray).size = n := by
  show (Lib.repeatL [b] n).toArray.size = n
  rw [List.size_toArray]
  induction n with
  | zero => rfl
  | succ k ih => simp [Lib.repeatL] at ih ⊢; try omega

theorem kind_raw (x y z u : Int) (hy : (Lit.int .i64 y).wf = true) (hz : (Lit.int .i64 z).wf = true) :
    ∃ n j, n < 4 ∧ j < 3 ∧ ∀ w : World, Calls Tryd.prog 10 #[.agg #[.int .i64 x, .int .i64 y, .int .i64 z, .int .i64 u]] w fun e w' => e = .returned (.string (kText n j)) ∧ Below w.heap.size w w' := by
  obtain ⟨n, hn, hpy⟩ := picked_fix y hy 4 (by omega) (by omega)
  obtain ⟨j, hj, hpz⟩ := picked_fix z hz 3 (by omega) (by omega)
  have hn' : n < 4 := by omega
  have hj' : j < 3 := by omega
  refine ⟨n, j, hn', hj', fun w => ?_⟩
  have hO : ∀ w : World, Calls Tryd.prog 21 #[.string ⟨#[91]⟩, .int .i64 n] w fun e w' => e = .returned (.string (openK n)) ∧ Below w.heap.size w w' :=
    fun w => Tryd.strings_Repeat ⟨#[91]⟩ n w (by omega) (by show 1 * n ≤ _; omega)
  have hP : ∀ w : World, Calls Tryd.prog 21 #[.string ⟨#[93]⟩, .int .i64 n] w fun e w' => e = .returned (.string (shutK n)) ∧ Below w.heap.size w w' :=
    fun w => Tryd.strings_Repeat ⟨#[93]⟩ n w (by omega) (by show 1 * n ≤ _; omega)
  have so : (openK n).size ≤ 3 := by unfold openK; rw [rep_sizeK]; omega
  have sp : (shutK n).size ≤ 3 := by unfold shutK; rw [rep_sizeK]; omega
  unfold kText
  obtain rfl | rfl | rfl : j = 0 ∨ j = 1 ∨ j = 2 := by omega
  · exact kindOf_walk0 x y z u n _ _ so sp hO hP hpy hpz w
  · exact kindOf_walk1 x y z u n _ _ so sp hO hP hpy hpz w
  · exact kindOf_walk2 x y z u n _ _ so sp hO hP hpy hpz w

end Go.Proofs.YtpamadnckijfkadDoor
