/- What the reference's lineOf answers: joined. -/
import Derived.Test.YtpamadnckijfkabGreatDoorEyeLine4
namespace Go.Proofs.YtpamadnckijfkabGreatDoor
open Go.RowKit
set_option maxRecDepth 100000

set_option maxHeartbeats 8000000 in
theorem line_other (l : Toks) (ta : Option Addr) (tcap base M n1 : Nat) (mo : Mo) (vu vt vf : Value) (W : World) (h : ModAt base M n1 mo vu vt vf W) (ht : TokRow W (.slice ta l.length tcap) l) (h2 : l.length ≤ 200) (h3 : ∀ t ∈ l, faultOf t = 0) (h0 : 0 < l.length) (tx : ByteArray) (hk : l[0].1 = 1) (htx : l[0].2 = tx) (hx1 : (tx.toList == [117, 115, 101]) = false) (hx2 : (tx.toList == [116, 121, 112, 101]) = false) (hx3 : (tx.toList == [102, 117, 110, 99]) = false) : Calls Tryz.prog 14 #[.pointer (some ⟨M, 0, none⟩), .slice ta l.length tcap] W fun r w' => ∃ x, r = .returned (.int .i64 x) ∧ LineR base M mo W (pLine l) x w' := by
  have hw0 : ∀ s, wrd l 0 s = (tx.toList == s) := fun s => by rw [wrd, tokB_of h0, hk, htx, Lib.toList_data]; simp
  have HPl : Hid (pLine l = .error 4) := by
    show _ = _
    unfold pLine
    rw [if_neg (by omega), hw0, hw0, hw0, if_neg (by rw [hx1]; simp), if_neg (by rw [hx2]; simp), if_neg (by rw [hx3]; simp)]
  clear hw0
  have hE0 := eye_new ht h2 h3
  have HB0 : Hid (Below W.heap.size W (W.alloc (.cells #[.slice ta l.length tcap, .int .i64 0, .int .i64 0, .int .i64 0] 95))) := (Below.refl _ _).alloc (Nat.le_refl _) _
  have hone := one_some W.heap.size l 0 0 _ hE0 h0
  rw [hk, htx] at hone
  have HOne := veil hone
  have HMod := veil h
  have hM := h.hM
  have hbn := h.hb
  have hnW := h.hn
  have hl0 : ((l.length : Int) == 0) = false := by rw [beq_eq_false_iff_ne]; omega
  clear hone hE0 h ht h3 hk htx
  go_enter Tryz.func14, Tryz.ntmps14
  go_wp2_with fail
  refine HOne.out.mono ?_
  rintro r w1 ⟨rfl, hE1, q2⟩
  have hs1 : W.heap.size + 1 ≤ w1.heap.size := by have := q2.below.size; simpa using this
  have HB1 : Hid (Below W.heap.size W w1) := HB0.out.trans q2.below
  have hE2 := ey_alloc hE1 (.cells #[.int .i64 1, .string tx] 90)
  have HB2 : Hid (Below W.heap.size W (w1.alloc (.cells #[.int .i64 1, .string tx] 90))) := HB1.out.alloc (by omega) _
  have t0 : (w1.alloc (.cells #[.int .i64 1, .string tx] 90)).cell? ⟨w1.heap.size, 0, none⟩ = some (.int .i64 1) := World.cell?_alloc_at _ _ _ _ rfl
  have t1 : (w1.alloc (.cells #[.int .i64 1, .string tx] 90)).cell? ⟨w1.heap.size, 1, none⟩ = some (.string tx) := World.cell?_alloc_at _ _ _ _ rfl
  clear q2 hE1 HOne HB0
  go_wp2_with fail
  go_ret
  exact ⟨_, rfl, BelowM.of_below HB2.out (by omega), .inl ⟨4, HPl.out, rfl⟩⟩

set_option maxHeartbeats 8000000 in
theorem line_kind (l : Toks) (ta : Option Addr) (tcap base M n1 : Nat) (mo : Mo) (vu vt vf : Value) (W : World) (h : ModAt base M n1 mo vu vt vf W) (ht : TokRow W (.slice ta l.length tcap) l) (h2 : l.length ≤ 200) (h3 : ∀ t ∈ l, faultOf t = 0) (h0 : 0 < l.length) (hk : l[0].1 ≠ 1) : Calls Tryz.prog 14 #[.pointer (some ⟨M, 0, none⟩), .slice ta l.length tcap] W fun r w' => ∃ x, r = .returned (.int .i64 x) ∧ LineR base M mo W (pLine l) x w' := by
  have HPl : Hid (pLine l = .error 4) := by
    have hw0 : ∀ s, wrd l 0 s = false := fun s => by rw [wrd, tokB_of h0, beq_eq_false_iff_ne.2 hk]; rfl
    show _ = _
    unfold pLine
    rw [if_neg (by omega), hw0, hw0, hw0, if_neg (by simp), if_neg (by simp), if_neg (by simp)]
  have hE0 := eye_new ht h2 h3
  have HB0 : Hid (Below W.heap.size W (W.alloc (.cells #[.slice ta l.length tcap, .int .i64 0, .int .i64 0, .int .i64 0] 95))) := (Below.refl _ _).alloc (Nat.le_refl _) _
  have HOne := veil (one_some W.heap.size l 0 0 _ hE0 h0)
  have hk' : (l[0].1 != 1) = true := bne_iff_ne.2 hk
  have hbn := h.hb
  have hnW := h.hn
  have hl0 : ((l.length : Int) == 0) = false := by rw [beq_eq_false_iff_ne]; omega
  clear hE0 h ht h3 hk
  generalize l[0].1 = kd at *
  generalize l[0].2 = tx at *
  go_enter Tryz.func14, Tryz.ntmps14
  go_wp2_with fail
  refine HOne.out.mono ?_
  rintro r w1 ⟨rfl, hE1, q2⟩
  have HB1 : Hid (Below W.heap.size W w1) := HB0.out.trans q2.below
  have hs1 := q2.below.size
  have t0 : (w1.alloc (.cells #[.int .i64 kd, .string tx] 90)).cell? ⟨w1.heap.size, 0, none⟩ = some (.int .i64 kd) := World.cell?_alloc_at _ _ _ _ rfl
  have HB2 : Hid (Below W.heap.size W (w1.alloc (.cells #[.int .i64 kd, .string tx] 90))) := HB1.out.alloc HB1.out.size _
  clear q2 hE1 HOne HB0
  go_wp2_with fail
  go_ret
  exact ⟨_, rfl, BelowM.of_below HB2.out (by omega), .inl ⟨4, HPl.out, rfl⟩⟩

/-- a line of tokens is read as the plain reading says. -/
theorem line_eye (l : Toks) (v : Value) (base M n1 : Nat) (mo : Mo) (vu vt vf : Value) (W : World) (h : ModAt base M n1 mo vu vt vf W) (ht : TokRow W v l) (h2 : l.length ≤ 200) (h3 : ∀ t ∈ l, faultOf t = 0) (hu : mo.uses.length ≤ 2000) (hty : mo.types.length ≤ 2000) (hf : mo.funcs.length ≤ 2000) :
    Calls Tryz.prog 14 #[.pointer (some ⟨M, 0, none⟩), v] W fun r w' => ∃ x, r = .returned (.int .i64 x) ∧ LineR base M mo W (pLine l) x w' := by
  obtain ⟨ta, tcap, rfl⟩ : ∃ ta tcap, v = .slice ta l.length tcap := by
    rcases ht with ⟨rfl, a, cap, rfl⟩ | ⟨b, off, cap, rfl, _⟩
    · exact ⟨a, cap, rfl⟩
    · exact ⟨_, cap, rfl⟩
  by_cases h0 : 0 < l.length
  · by_cases hk : l[0].1 = 1
    · cases hx1 : (l[0].2.toList == [117, 115, 101]) with
      | true => exact line_use l ta tcap base M n1 mo vu vt vf W h ht h2 h3 hu hty hf h0 _ hk rfl hx1
      | false =>
        cases hx2 : (l[0].2.toList == [116, 121, 112, 101]) with
        | true => exact line_type l ta tcap base M n1 mo vu vt vf W h ht h2 h3 hu hty hf h0 _ hk rfl hx1 hx2
        | false =>
          cases hx3 : (l[0].2.toList == [102, 117, 110, 99]) with
          | true => exact line_fun l ta tcap base M n1 mo vu vt vf W h ht h2 h3 hu hty hf h0 _ hk rfl hx1 hx2 hx3
          | false => exact line_other l ta tcap base M n1 mo vu vt vf W h ht h2 h3 h0 _ hk rfl hx1 hx2 hx3
    · exact line_kind l ta tcap base M n1 mo vu vt vf W h ht h2 h3 h0 hk
  · have hl : l = [] := List.length_eq_zero_iff.1 (by omega)
    subst hl
    have HR : Hid (LineR base M mo W (pLine []) 0 W) := ⟨⟨rfl, rfl, rfl, Nat.le_refl _, fun _ _ _ => rfl⟩, .inr ⟨.none, rfl, rfl, n1, vu, vt, vf, h⟩⟩
    clear h ht
    go_enter Tryz.func14, Tryz.ntmps14
    go_wp2_with fail
    go_ret
    exact ⟨_, rfl, HR.out⟩

end Go.Proofs.YtpamadnckijfkabGreatDoor
