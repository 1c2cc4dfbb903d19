/- What the reference's head answers at a number. -/
import Derived.Test.YtpamadnckijfkabGreatDoorEyeHead2
namespace Go.Proofs.YtpamadnckijfkabGreatDoor
open Go.RowKit
set_option maxRecDepth 100000

theorem numVal_snoc (l : List UInt8) (c : UInt8) : numVal (l ++ [c]) = 10 * numVal l + ((c.toNat : Int) - 48) := by
  unfold numVal
  rw [List.foldl_append]
  rfl

theorem num_fold : ∀ (l : List UInt8) (n : Int), 0 ≤ n → (∀ c ∈ l, 48 ≤ c.toNat ∧ c.toNat ≤ 57) → 0 ≤ l.foldl (fun n c => 10 * n + ((c.toNat : Int) - 48)) n ∧ l.foldl (fun n c => 10 * n + ((c.toNat : Int) - 48)) n < (n + 1) * 10 ^ l.length
  | [], n, h, _ => by simp; omega
  | c :: l, n, h, hl => by
    have hc := hl c (by simp)
    have ih := num_fold l (10 * n + ((c.toNat : Int) - 48)) (by omega) (fun d hd => hl d (by simp [hd]))
    rw [List.foldl_cons, List.length_cons, Int.pow_succ]
    refine ⟨ih.1, Int.lt_of_lt_of_le ih.2 ?_⟩
    have hp : (0 : Int) ≤ 10 ^ l.length := Int.pow_nonneg (by omega)
    have := Int.mul_le_mul_of_nonneg_right (show 10 * n + ((c.toNat : Int) - 48) + 1 ≤ (n + 1) * 10 by omega) hp
    rw [Int.mul_assoc, Int.mul_comm 10 (10 ^ l.length)] at this
    exact this

theorem numVal_bd (l : List UInt8) (h : ∀ c ∈ l, 48 ≤ c.toNat ∧ c.toNat ≤ 57) : 0 ≤ numVal l ∧ numVal l < 10 ^ l.length := by
  have := num_fold l 0 (by omega) h
  rw [Int.zero_add, Int.one_mul] at this
  exact this

set_option maxHeartbeats 8000000 in
theorem head_num (B : Nat) (l : Toks) (d : Nat) (T : Res Ex) (i i1 : Nat) (e : Int) (tx : ByteArray) (_hsz : tx.size ≤ maxLen) (w : World) (h : EyeAt B l i e d w) (hs : seesB l i e [40] = false) (hs2 : seesB l i e [91] = false)
    (hone : ∀ W, EyeAt B l i e d W → Calls Tryz.prog 45 #[.pointer (some ⟨B, 0, none⟩)] W fun r w' => r = .returned (.agg #[.int .i64 2, .string tx]) ∧ EyeAt B l i1 e d w' ∧ Moved B W w')
    (he : e = 0) (hnum : numOk tx = true) (hT : T = .ok (exNum tx) i1) :
    Calls Tryz.prog 137 #[.pointer (some ⟨B, 0, none⟩)] w (ExprR B l d T w) := by
  have hz6 : tx.size ≤ 6 := by
    simp only [numOk, Bool.and_eq_true, isIn, decide_eq_true_eq] at hnum
    omega
  have hdig : ∀ k (hk : k < tx.size), 48 ≤ ((tx[k]'hk).toNat : Int) ∧ ((tx[k]'hk).toNat : Int) ≤ 57 := by
    intro k hk
    simp only [numOk, Bool.and_eq_true, allB_iff] at hnum
    have := digit_bd (hnum.1 k hk)
    rw [← byteAt_get tx k hk] at this
    exact this
  have hbd : ∀ k, k ≤ tx.size → 0 ≤ numVal (tx.data.toList.take k) ∧ numVal (tx.data.toList.take k) < 1000000 := by
    intro k hk
    have h1 := numVal_bd (tx.data.toList.take k) (fun c hc => by
      obtain ⟨j, hj, rfl⟩ := List.getElem_of_mem hc
      rw [List.length_take] at hj
      have hj' : j < tx.size := by rw [Lib.size_eq]; omega
      rw [List.getElem_take]
      have := hdig j hj'
      have e : ((tx[j]'hj').toNat : Int) = ((tx.data.toList[j]'(by rw [← Lib.size_eq]; exact hj')).toNat : Int) := rfl
      omega)
    have h2 : (10 : Int) ^ (tx.data.toList.take k).length ≤ 10 ^ 6 := by
      have : (tx.data.toList.take k).length ≤ 6 := by rw [List.length_take, ← Lib.size_eq]; omega
      exact_mod_cast Nat.pow_le_pow_right (by omega) this
    omega
  have hstep : ∀ k (hk : k < tx.size), numVal (tx.data.toList.take (k + 1)) = 10 * numVal (tx.data.toList.take k) + (((tx[k]'hk).toNat : Int) - 48) := by
    intro k hk
    have hl : k < tx.data.toList.length := by rw [← Lib.size_eq]; exact hk
    rw [List.take_succ_eq_append_getElem hl, numVal_snoc]
    rfl
  have HDig := veil hdig
  have HBd := veil hbd
  have HStep := veil hstep
  clear hdig hbd hstep hnum
  have hlt := ey_lt h
  have HA := veil (ey_alloc h (.cells #[.int .i64 0, .int .i64 0, .string ⟨#[]⟩, .string ⟨#[]⟩, .slice none 0 0] 52))
  have HM : Hid (Moved B w (w.alloc (.cells #[.int .i64 0, .int .i64 0, .string ⟨#[]⟩, .string ⟨#[]⟩, .slice none 0 0] 52))) := Moved.of_below ((Below.refl _ _).alloc (Nat.le_refl _) _) (by omega)
  have HSg : Hid (seesB l i e (ByteArray.mk #[40]).data.toList = false) := hs
  have HSg2 : Hid (seesB l i e (ByteArray.mk #[91]).data.toList = false) := hs2
  have HOne := veil hone
  have HT := veil hT
  have HE := veil he
  clear h hs hs2 hone hT he
  go_enter Tryz.func137, Tryz.ntmps137
  go_wp2_with fail
  refine (sees_eye B l i e _ ⟨#[40]⟩ _ HA.out).mono ?_
  rintro r w1 ⟨rfl, q1, q2⟩
  rw [HSg.out] at q1
  rw [HSg.out]
  have hE1 : EyeAt B l i e d w1 := q1
  have hs1 : w.heap.size + 1 ≤ w1.heap.size := by have := q2.below.size; simpa using this
  have HZ1 := veil ((q2.above w.heap.size hlt (by simp)).trans (heap_alloc_new w (.cells #[.int .i64 0, .int .i64 0, .string ⟨#[]⟩, .string ⟨#[]⟩, .slice none 0 0] 52)))
  have HM1 := veil (HM.out.trans q2)
  clear q1 q2
  go_wp2_with fail
  refine (sees_eye B l i e _ ⟨#[91]⟩ _ hE1).mono ?_
  rintro r w2 ⟨rfl, q1, q2⟩
  rw [HSg2.out] at q1
  rw [HSg2.out]
  have hE2 : EyeAt B l i e d w2 := q1
  have HX := veil (HOne.out w2 hE2)
  have hs2 := q2.below.size
  have HZ2 := veil ((q2.above w.heap.size hlt (by omega)).trans HZ1.out)
  have HM2 := veil (HM1.out.trans q2)
  clear q1 q2 hE1 hE2
  go_wp2_with fail
  refine HX.out.mono ?_
  rintro r w3 ⟨rfl, hE3, q2⟩
  have hs3 := q2.below.size
  have hz3 := (heap_alloc_old w3 (.cells #[.int .i64 2, .string tx] 90) (by omega)).trans ((q2.above w.heap.size hlt (by omega)).trans HZ2.out)
  have hM3 := (HM2.out.trans q2).alloc (by omega) (.cells #[.int .i64 2, .string tx] 90)
  have hE4 := ey_alloc hE3 (.cells #[.int .i64 2, .string tx] 90)
  have t0 : (w3.alloc (.cells #[.int .i64 2, .string tx] 90)).cell? ⟨w3.heap.size, 0, none⟩ = some (.int .i64 2) := World.cell?_alloc_at _ _ _ _ rfl
  have t1 : (w3.alloc (.cells #[.int .i64 2, .string tx] 90)).cell? ⟨w3.heap.size, 1, none⟩ = some (.string tx) := World.cell?_alloc_at _ _ _ _ rfl
  clear q2 hE3 HX HA HM HZ1 HM1 HZ2 HM2 HSg HSg2 HOne
  have HFin := veil (expr_fin (T := T) (ob := w.heap.size) (k := 1) (n := numVal tx.data.toList) (f := ⟨#[]⟩) (s := ⟨#[]⟩) (a := none) (m := 0) (c := 0) hE4 hM3 hlt hz3 (.inl ⟨HE.out, _, ex_leaf 1 _ empty_le empty_le, HT.out⟩))
  obtain ⟨⟨r0, r1, r2, r3, r4⟩, ⟨g0, g1, g2, g3, g4⟩⟩ := five_cells hz3
  clear hE4 hM3 hz3
  go_wp2_with fail
  go_loop [5, 6] (fun n i => ∃ k : Nat, k ≤ tx.size ∧ n = .int .i64 (numVal (tx.data.toList.take k)) ∧ i = .int .i64 k) (fun _ i => tx.size - (intOf i).toNat)
  case atStart => exact ⟨0, Nat.zero_le _, rfl, rfl⟩
  case round =>
    obtain ⟨k, hk, rfl, rfl⟩ := hrel
    by_cases hlt2 : k < tx.size
    · obtain ⟨d0, d1⟩ := HDig.out k hlt2
      obtain ⟨b0, b1⟩ := HBd.out k hk
      obtain ⟨b2, b3⟩ := HBd.out (k + 1) hlt2
      have HSt := veil (HStep.out k hlt2)
      rw [HSt.out] at b2 b3
      generalize numVal (tx.data.toList.take k) = nv at *
      have hlt3 : (k : Int) < (tx.size : Int) := by omega
      have hwr : IntKind.u8.wrap (((tx[k]'hlt2).toNat : Int) - 48) = ((tx[k]'hlt2).toNat : Int) - 48 := by
        unfold IntKind.wrap
        simp [IntKind.signed, IntKind.bits]
        omega
      go_wp2_with fail
      go_round
      · exact ⟨k + 1, by omega, by rw [HSt.out], by simp⟩
      · simp [intOf]; omega
    · have hk' : k = tx.size := by omega
      subst hk'
      have HN : Hid (tx.data.toList.take tx.size = tx.data.toList) := by show _ = _; rw [Lib.size_eq, List.take_length]
      rw [HN.out]
      go_wp2_with fail
      obtain ⟨F, hF, ⟨y0, y1, y2, y3, y4⟩, hR⟩ := HFin.out
      rw [hF]
      exact bodyPost_ret (v := .agg #[.int .i64 1, .int .i64 (numVal tx.data.toList), .string ⟨#[]⟩, .string ⟨#[]⟩, .slice none 0 0]) (by simp [results, Tryz.results137, go_sem, y0, y1, y2, y3, y4]) rfl hR

end Go.Proofs.YtpamadnckijfkabGreatDoor
