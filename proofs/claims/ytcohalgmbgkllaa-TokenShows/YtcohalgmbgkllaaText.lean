/- What the reference's TokensText answers, at every list of tokens: the same error and text as token.Show. -/
import Derived.Test.YtcohalgmbgkllaaShow
namespace Go.Proofs.Ytcohalgmbgkllaa
open Go.RowKit

theorem show_first {l : List (Int × ByteArray)} {k : Nat} {kd : Int} {tx : ByteArray} (h : showTo l (k + 1) = (showTo l k ++ (if k = 0 then [] else [32])) ++ writtenL (kd, tx)) (hk : k = 0) (h3 : kd ≠ 3) :
    textOf (showTo l (k + 1)) = textOf (showTo l k) ++ tx := by
  rw [h, if_pos hk, List.append_nil, ← textOf_append, show writtenL (kd, tx) = tx.data.toList from if_neg h3, textOf_data]
theorem show_first_quote {l : List (Int × ByteArray)} {k : Nat} {tx : ByteArray} (h : showTo l (k + 1) = (showTo l k ++ (if k = 0 then [] else [32])) ++ writtenL (3, tx)) (hk : k = 0) :
    textOf (showTo l (k + 1)) = textOf (showTo l k) ++ ByteArray.mk #[34] ++ tx ++ ByteArray.mk #[34] := by
  rw [h, if_pos hk, List.append_nil, ← textOf_append, written_quote, ← ByteArray.append_assoc, ← ByteArray.append_assoc]
theorem show_later {l : List (Int × ByteArray)} {k : Nat} {kd : Int} {tx : ByteArray} (h : showTo l (k + 1) = (showTo l k ++ (if k = 0 then [] else [32])) ++ writtenL (kd, tx)) (hk : k ≠ 0) (h3 : kd ≠ 3) :
    textOf (showTo l (k + 1)) = textOf (showTo l k) ++ ByteArray.mk #[32] ++ tx := by
  rw [h, if_neg hk, ← textOf_append, ← textOf_append, show writtenL (kd, tx) = tx.data.toList from if_neg h3, textOf_data]
  rfl
theorem show_later_quote {l : List (Int × ByteArray)} {k : Nat} {tx : ByteArray} (h : showTo l (k + 1) = (showTo l k ++ (if k = 0 then [] else [32])) ++ writtenL (3, tx)) (hk : k ≠ 0) :
    textOf (showTo l (k + 1)) = textOf (showTo l k) ++ ByteArray.mk #[32] ++ ByteArray.mk #[34] ++ tx ++ ByteArray.mk #[34] := by
  rw [h, if_neg hk, ← textOf_append, ← textOf_append, written_quote, ← ByteArray.append_assoc, ← ByteArray.append_assoc]
  rfl

set_option maxHeartbeats 4000000 in
theorem text_row (b off cap : Nat) (l : List (Int × ByteArray)) (w : World) (hbw : b < w.heap.size) (hl : l.length ≤ 200) (hok : faults l = 0)
    (hcell : ∀ i, i < l.length → w.cell? ⟨b, off + i * 2, none⟩ = some (.int .i64 (l.getD i (0, .empty)).1) ∧ w.cell? ⟨b, off + i * 2 + 1, none⟩ = some (.string (l.getD i (0, .empty)).2) ∧ (l.getD i (0, .empty)).2.size ≤ maxLen) :
    Calls Try.prog 16 #[.slice (some ⟨b, off, none⟩) l.length cap] w fun e w' => e = .returned (.tuple #[.string (textOf (showTo l l.length)), .int .i64 0]) ∧ Below w.heap.size w w' := by
  have hrow : TokRow w (.slice (some ⟨b, off, none⟩) l.length cap) l := Or.inr ⟨b, off, cap, rfl, hbw, by unfold maxLen; omega, hcell⟩
  have HCK := veil (fault_any _ l w hrow)
  have h0 : checkAll l = 0 := by unfold checkAll; rw [if_neg (by omega)]; exact hok
  have hsm : ∀ j, j < l.length → (l.getD j (0, .empty)).2.size ≤ 20 := fun j hj => tok_small (faults_all l hok j hj)
  have HLE := veil (showTo_le l hsm)
  have HSM := veil hsm
  have HC := veil hcell
  clear hcell hrow hsm hok
  go_enter Try.func16, Try.ntmps16
  go_wp2_with fail
  refine HCK.out.mono ?_
  rintro e w1 ⟨rfl, hb1⟩
  clear HCK
  rw [h0]
  clear h0
  have HB1 := veil hb1
  clear hb1
  go_wp2
  go_loop [5, 6] (fun v i => ∃ k : Nat, k ≤ l.length ∧ i = .int .i64 k ∧ v = .string (textOf (showTo l k))) (fun _ i => l.length - (intOf i).toNat)
  case atStart => exact ⟨0, Nat.zero_le _, rfl, rfl⟩
  case round =>
    obtain ⟨k, hk, rfl, rfl⟩ := hrel
    by_cases hlt : k < l.length
    · obtain ⟨c0, c1, _⟩ := HC.out k hlt
      have d0 : w1.cell? ⟨b, off + k * 2, none⟩ = some (.int .i64 (l.getD k (0, .empty)).1) := (HB1.out.cell (by exact hbw)).trans c0
      have d1 : w1.cell? ⟨b, off + k * 2 + 1, none⟩ = some (.string (l.getD k (0, .empty)).2) := (HB1.out.cell (by exact hbw)).trans c1
      have hsz := HSM.out k hlt
      have hst : (textOf (showTo l k)).size ≤ 4600 := by rw [textOf_size]; have := HLE.out k (by omega); omega
      have HST : Hid (showTo l (k + 1) = (showTo l k ++ (if k = 0 then [] else [32])) ++ writtenL ((l.getD k (0, .empty)).1, (l.getD k (0, .empty)).2)) := rfl
      clear c0 c1 HC
      generalize (l.getD k (0, ByteArray.empty)).1 = kd at *
      generalize (l.getD k (0, ByteArray.empty)).2 = tx at *
      by_cases hk0 : k = 0
      · have hk' : ¬ (0 : Int) < (k : Int) := by omega
        by_cases h3 : kd = 3
        · subst h3
          have HN := veil (show_first_quote HST.out hk0)
          clear hk0 HST
          generalize textOf (showTo l k) = S at *
          go_wp2
          go_round
          case rel => exact ⟨k + 1, by omega, by go_num, by rw [HN.out]⟩
          case measure => simp [intOf]; omega
        · have h3' : (kd == 3) = false := beq_eq_false_iff_ne.2 h3
          have HN := veil (show_first HST.out hk0 h3)
          clear hk0 HST h3
          generalize textOf (showTo l k) = S at *
          go_wp2
          go_round
          case rel => exact ⟨k + 1, by omega, by go_num, by rw [HN.out]⟩
          case measure => simp [intOf]; omega
      · have hk' : (0 : Int) < (k : Int) := by omega
        by_cases h3 : kd = 3
        · subst h3
          have HN := veil (show_later_quote HST.out hk0)
          clear hk0 HST
          generalize textOf (showTo l k) = S at *
          go_wp2
          go_round
          case rel => exact ⟨k + 1, by omega, by go_num, by rw [HN.out]⟩
          case measure => simp [intOf]; omega
        · have h3' : (kd == 3) = false := beq_eq_false_iff_ne.2 h3
          have HN := veil (show_later HST.out hk0 h3)
          clear hk0 HST h3
          generalize textOf (showTo l k) = S at *
          go_wp2
          go_round
          case rel => exact ⟨k + 1, by omega, by go_num, by rw [HN.out]⟩
          case measure => simp [intOf]; omega
    · have hkl : k = l.length := by omega
      have HK : Hid (textOf (showTo l k) = textOf (showTo l l.length)) := by show _ = _; rw [hkl]
      clear hkl HC
      go_wp2
      go_ret2
      exact ⟨by rw [← HK.out]; rfl, HB1.out⟩

set_option maxHeartbeats 1000000 in
theorem text_any (v : Value) (l : List (Int × ByteArray)) (w : World) (h : TokRow w v l) :
    Calls Try.prog 16 #[v] w fun e w' => e = .returned (.tuple #[.string (showText l), .int .i64 (checkAll l)]) ∧ Below w.heap.size w w' := by
  by_cases h0 : checkAll l = 0
  · have ht : showText l = textOf (showTo l l.length) := if_pos h0
    rw [ht, h0]
    obtain ⟨h200, hok⟩ := checkAll_ok h0
    by_cases hl : l = []
    · subst hl
      obtain ⟨a, cap, rfl⟩ : ∃ a cap, v = .slice a 0 cap := by
        rcases h with ⟨_, a, cap, rfl⟩ | ⟨b, off, cap, rfl, _⟩
        · exact ⟨a, cap, rfl⟩
        · exact ⟨_, cap, rfl⟩
      have HCK := veil (fault_any _ [] w h)
      clear h h200 hok ht
      go_enter Try.func16, Try.ntmps16
      go_wp2_with fail
      refine HCK.out.mono ?_
      rintro e w1 ⟨rfl, hb1⟩
      rw [h0]
      go_wp2
      refine wp_loop_rounds 1 ?_
      rw [rounds_succ]
      go_wp2
      go_ret2
      exact ⟨rfl, hb1⟩
    · rcases h with ⟨h, _⟩ | ⟨b, off, cap, rfl, hb, _, hcell⟩
      · exact absurd h hl
      · exact text_row b off cap l w hb h200 hok hcell
  · have HT : Hid (showText l = ⟨#[]⟩) := if_neg h0
    have h1 : (checkAll l != 0) = true := by simp [h0]
    have HCK := veil (fault_any _ l w h)
    clear h h0
    go_enter Try.func16, Try.ntmps16
    go_wp2_with fail
    refine HCK.out.mono ?_
    rintro e w1 ⟨rfl, hb1⟩
    go_wp2
    go_ret2
    exact ⟨by rw [HT.out]; rfl, hb1⟩

end Go.Proofs.Ytcohalgmbgkllaa
