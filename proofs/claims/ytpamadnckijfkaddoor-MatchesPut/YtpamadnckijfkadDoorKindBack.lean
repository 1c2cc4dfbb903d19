/- The kinds that scullerykeep.Kind makes of raw things, and what kind's functions answer at them. -/
import Derived.Test.YtpamadnckijfkadDoorKindX
import Derived.Deep.RegionWith
namespace Go.Proofs.YtpamadnckijfkadDoor
open Go.RowKit
set_option maxRecDepth 100000

theorem picked_fix (n : Int) (hn : (Lit.int .i64 n).wf = true) (m : Int) (h0 : 0 < m) (h1 : m ≤ 1000000) :
    ∃ k : Nat, (k : Int) < m ∧ ∀ w : World, Calls Tryd.prog 20 #[.int .i64 n, .int .i64 m] w fun e w' => e = .returned (.int .i64 k) ∧ w = w' := by
  have hx : -9223372036854775808 ≤ n ∧ n ≤ 9223372036854775807 := by simpa [Lit.wf, IntKind.min, IntKind.max, IntKind.signed, IntKind.bits] using hn
  obtain ⟨hx0, hx1⟩ := hx
  clear hn
  by_cases hneg : n < 0
  · have e : -((n + 1).tmod m) = (((-(n + 1)) % m).toNat : Int) := by
      rw [← Int.neg_tmod, Int.tmod_eq_emod_of_nonneg (by omega), Int.toNat_of_nonneg (Int.emod_nonneg _ (by omega))]
    have hk : (((-(n + 1)) % m).toNat : Int) < m := by
      rw [Int.toNat_of_nonneg (Int.emod_nonneg _ (by omega))]
      exact Int.emod_lt_of_pos _ h0
    have HE := veilK e
    refine ⟨_, hk, fun w => ?_⟩
    clear e hk
    go_enter Tryd.func20, Tryd.ntmps20
    go_wp2
    go_ret
    exact ⟨by rw [← HE.out]; rfl, rfl⟩
  · obtain ⟨k, he⟩ := Int.eq_ofNat_of_zero_le (Int.emod_nonneg n (show m ≠ 0 by omega))
    have hk : (k : Int) < m := by rw [← he]; exact Int.emod_lt_of_pos _ h0
    have e : n.tmod m = (k : Int) := by rw [Int.tmod_eq_emod_of_nonneg (by omega), he]
    have HE := veilK e
    have HE' := veilK he
    refine ⟨k, hk, fun w => ?_⟩
    clear e he hk
    go_enter Tryd.func20, Tryd.ntmps20
    go_wp2
    go_ret
    exact ⟨by first | (rw [← HE.out]; rfl) | (rw [← HE'.out]; rfl), rfl⟩

def baseK : Nat → ByteArray
  | 0 => ⟨#[105, 110, 116]⟩
  | 1 => ⟨#[116, 101, 120, 116]⟩
  | _ => ⟨#[42]⟩
def openK (n : Nat) : ByteArray := ⟨(Lib.repeatL [91] n).toArray⟩
def shutK (n : Nat) : ByteArray := ⟨(Lib.repeatL [93] n).toArray⟩
def kText (n j : Nat) : ByteArray := openK n ++ baseK j ++ shutK n

/-- the same as 'kcore', by a number of steps. -/
def kfuel : Nat → ByteArray → ByteArray
  | 0, s => s
  | n + 1, s => if isList s = true then kfuel n (inner s) else s

theorem kcore_fuel : ∀ (n : Nat) (s : ByteArray), s.size ≤ n → kcore s = kfuel n s
  | 0, s, h => by
    refine kcore_no ?_
    cases e : isList s with
    | false => rfl
    | true => have := isList_size e; omega
  | n + 1, s, h => by
    rw [kfuel]
    split
    · next e =>
      have h2 := isList_size e
      rw [kcore_in e, kcore_fuel n (inner s) (by rw [inner_size h2]; omega)]
    · next e => exact kcore_no (by simpa using e)

def errFuel (s : ByteArray) : Int := if 600 < s.size then 1 else if isBase (kfuel 20 s) then 0 else 4
theorem kindErr_fuel (s : ByteArray) (h : s.size ≤ 20) : kindErr s = errFuel s := by
  unfold kindErr errFuel
  rw [kcore_fuel 20 s h]

/-- what is to be known of such a kind. -/
structure GoodK (s : ByteArray) : Prop where
  size : s.size ≤ 10
  good : kindErr s = 0
  isl : isList (wrapK s) = true
  inn : inner (wrapK s) = s
  var : hasVar (wrapK s) = hasVar s
  pre : kindErr (⟨#[91]⟩ ++ s) = 4
  suf : kindErr (s ++ ⟨#[120]⟩) = 4

set_option maxRecDepth 100000 in
theorem kText_good : ∀ n < 4, ∀ j < 3, GoodK (kText n j) := by
  have key : ∀ n < 4, ∀ j < 3, (kText n j).size ≤ 10 ∧ errFuel (kText n j) = 0 ∧ isList (wrapK (kText n j)) = true ∧ inner (wrapK (kText n j)) = kText n j ∧ hasVar (wrapK (kText n j)) = hasVar (kText n j) ∧ errFuel (⟨#[91]⟩ ++ kText n j) = 4 ∧ errFuel (kText n j ++ ⟨#[120]⟩) = 4 := by decide +kernel
  intro n hn j hj
  obtain ⟨h1, h2, h3, h4, h5, h6, h7⟩ := key n hn j hj
  have e1 : (⟨#[91]⟩ : ByteArray).size = 1 := rfl
  have e2 : (⟨#[120]⟩ : ByteArray).size = 1 := rfl
  exact ⟨h1, by rw [kindErr_fuel _ (by omega)]; exact h2, h3, h4, h5, by rw [kindErr_fuel _ (by rw [ByteArray.size_append]; omega)]; exact h6, by rw [kindErr_fuel _ (by rw [ByteArray.size_append]; omega)]; exact h7⟩

theorem built_later {W w1 : World} {cs : Array Value} {T : TypeId} (hb : Below (W.alloc (.cells cs T)).heap.size (W.alloc (.cells cs T)) w1) (i : Nat) (v : Value) (h : cs[i]? = some v) :
    w1.cell? ⟨W.heap.size, i, none⟩ = some v := by
  rw [hb.cell (p := ⟨W.heap.size, i, none⟩) (by simp)]
  rw [World.cell?_alloc_new]
  exact h

theorem string_later {W w1 : World} {a : Addr} {t : ByteArray} (hb : Below W.heap.size W w1) (h : W.cell? a = some (.string t)) : w1.cell? a = some (.string t) :=
  (hb.cell (World.block_lt_of_cell? _ _ h)).trans h

/-- what holds of the world all along Kind's last line: the raw thing's box, and nothing older has turned. -/
def KHeld (w : World) (z : Int) (W : World) : Prop := W.cell? ⟨w.heap.size, 2, none⟩ = some (.int .i64 z) ∧ Below w.heap.size w W

theorem KHeld.next {w W W' : World} {z : Int} (h : KHeld w z W) (hb : Below W.heap.size W W') : KHeld w z W' :=
  ⟨(hb.cell (World.block_lt_of_cell? _ _ h.1)).trans h.1, h.2.trans (hb.mono h.2.size)⟩

theorem KHeld.alloc {w W : World} {z : Int} (h : KHeld w z W) (o : Obj) : KHeld w z (W.alloc o) := h.next ((Below.refl _ _).alloc (Nat.le_refl _) o)

end Go.Proofs.YtpamadnckijfkadDoor
