/- What scullerykeep.Kind answers where its second number chooses the third kind. -/
import Derived.Test.YtpamadnckijfkadDoorKindBack
namespace Go.Proofs.YtpamadnckijfkadDoor
open Go.RowKit
set_option maxRecDepth 100000

set_option maxHeartbeats 4000000 in
set_option maxRecDepth 100000 in
theorem kindOf_walk2 (x y z u : Int) (n : Nat) (o p : ByteArray) (ho : o.size ≤ 3) (hp : p.size ≤ 3)
    (hO : ∀ w : World, Calls Tryd.prog 21 #[.string ⟨#[91]⟩, .int .i64 n] w fun e w' => e = .returned (.string o) ∧ Below w.heap.size w w')
    (hP : ∀ w : World, Calls Tryd.prog 21 #[.string ⟨#[93]⟩, .int .i64 n] w fun e w' => e = .returned (.string p) ∧ Below w.heap.size w w')
    (hy : ∀ w : World, Calls Tryd.prog 20 #[.int .i64 y, .int .i64 4] w fun e w' => e = .returned (.int .i64 n) ∧ w = w')
    (hz : ∀ w : World, Calls Tryd.prog 20 #[.int .i64 z, .int .i64 3] w fun e w' => e = .returned (.int .i64 2) ∧ w = w') (w : World) :
    Calls Tryd.prog 10 #[.agg #[.int .i64 x, .int .i64 y, .int .i64 z, .int .i64 u]] w fun e w' => e = .returned (.string (o ++ baseK 2 ++ p)) ∧ Below w.heap.size w w' := by
  have HY := veilK hy
  have HZ := veilK hz
  have HO := veilK hO
  have HP := veilK hP
  have HN := veilK (fun (W W' : World) (h : KHeld w z W) (hb : Below W.heap.size W W') => KHeld.next h hb)
  have HA := veilK (fun (W : World) (ob : Obj) (h : KHeld w z W) => KHeld.alloc h ob)
  have HS0 : Hid (KHeld w z (w.alloc (.cells #[.int .i64 x, .int .i64 y, .int .i64 z, .int .i64 u] 30)).drew) :=
    ⟨by show (w.alloc _).cell? _ = _; rw [World.cell?_alloc_new]; rfl, ((Below.refl _ _).alloc (Nat.le_refl _) _).drew⟩
  have HB := veilK (fun (W : World) (h : KHeld w z W) => h.2)
  have HS1 : Hid (KHeld w z ((w.alloc (.cells #[.int .i64 x, .int .i64 y, .int .i64 z, .int .i64 u] 30)).alloc (.cells #[.string ⟨#[105, 110, 116]⟩, .string ⟨#[116, 101, 120, 116]⟩, .string ⟨#[42]⟩] 9)).drew) :=
    ⟨(HA.out _ (.cells #[.string ⟨#[105, 110, 116]⟩, .string ⟨#[116, 101, 120, 116]⟩, .string ⟨#[42]⟩] 9) HS0.out).1, ((((Below.refl _ _).alloc (Nat.le_refl _) _).alloc (by simp) _).drew)⟩
  have HD : Hid (∀ w1 : World, Below ((w.alloc (.cells #[.int .i64 x, .int .i64 y, .int .i64 z, .int .i64 u] 30)).alloc (.cells #[.string ⟨#[105, 110, 116]⟩, .string ⟨#[116, 101, 120, 116]⟩, .string ⟨#[42]⟩] 9)).drew.heap.size ((w.alloc (.cells #[.int .i64 x, .int .i64 y, .int .i64 z, .int .i64 u] 30)).alloc (.cells #[.string ⟨#[105, 110, 116]⟩, .string ⟨#[116, 101, 120, 116]⟩, .string ⟨#[42]⟩] 9)).drew w1 → w1.cell? ⟨w.heap.size + 1, 2, none⟩ = some (.string ⟨#[42]⟩)) := by
    intro w1 hb
    rw [hb.cell (p := ⟨w.heap.size + 1, 2, none⟩) (by simp)]
    show ((w.alloc _).alloc _).cell? _ = _
    rw [← show (w.alloc (.cells #[.int .i64 x, .int .i64 y, .int .i64 z, .int .i64 u] 30)).heap.size = w.heap.size + 1 by simp, World.cell?_alloc_new]
    rfl
  have z1 : ¬ 9223372036854775807 < o.size + 1 := by omega
  have z2 : ¬ 9223372036854775807 < o.size + 1 + p.size := by omega
  clear hy hz hO hP
  go_enter Tryd.func10, Tryd.ntmps10
  go_wp2_with fail
  refine (HY.out _).mono ?_
  rintro e w' ⟨rfl, rfl⟩
  go_wp2_with fail
  have hS0 := HS0.out
  have hS1 := HS1.out
  go_region_with (first
      | (go_at_call_of 21 (Value.string ⟨#[91]⟩); refine (HO.out _).mono ?_; rintro e w1 ⟨rfl, hb⟩; (first | (have hk := HN.out _ _ (by assumption) hb) | (have hk := HN.out _ _ (HA.out _ _ (by assumption)) hb)); have hkz := hk.1; have hkA := fun ob => (HA.out _ ob hk).1; (first | (have hq := HD.out _ hb) | (have hq := built_later hb 2 _ rfl) | (have hq := string_later hb (by assumption)) | skip))
      | (go_at_call_of 21 (Value.string ⟨#[93]⟩); refine (HP.out _).mono ?_; rintro e w1 ⟨rfl, hb⟩; (first | (have hk := HN.out _ _ (by assumption) hb) | (have hk := HN.out _ _ (HA.out _ _ (by assumption)) hb)); have hkz := hk.1; have hkA := fun ob => (HA.out _ ob hk).1; (first | (have hq := HD.out _ hb) | (have hq := built_later hb 2 _ rfl) | (have hq := string_later hb (by assumption)) | skip))
      | (go_at_call 20; refine (HZ.out _).mono ?_; rintro e w' ⟨rfl, rfl⟩))
  all_goals
    go_wp2_with fail
    go_ret
    exact ⟨rfl, by first | exact HB.out _ (by assumption) | exact HB.out _ (HA.out _ _ (by assumption))⟩

end Go.Proofs.YtpamadnckijfkadDoor
