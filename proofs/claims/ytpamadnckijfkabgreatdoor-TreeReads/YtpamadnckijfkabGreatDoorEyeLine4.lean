/- What the reference's lineOf answers at a function. -/
import Derived.Test.YtpamadnckijfkabGreatDoorEyeLine3
namespace Go.Proofs.YtpamadnckijfkabGreatDoor
open Go.RowKit
set_option maxRecDepth 100000

set_option maxHeartbeats 16000000 in
theorem line_fun (l : Toks) (ta : Option Addr) (tcap base M n1 : Nat) (mo : Mo) (vu vt vf : Value) (W : World) (h : ModAt base M n1 mo vu vt vf W) (ht : TokRow W (.slice ta l.length tcap) l) (h2 : l.length ≤ 200) (h3 : ∀ t ∈ l, faultOf t = 0) (_hu : mo.uses.length ≤ 2000) (_hty : mo.types.length ≤ 2000) (hf : mo.funcs.length ≤ 2000)
    (h0 : 0 < l.length) (tx : ByteArray) (hk : l[0].1 = 1) (htx : l[0].2 = tx) (hx1 : (tx.toList == [117, 115, 101]) = false) (hx2 : (tx.toList == [116, 121, 112, 101]) = false) (hx3 : (tx.toList == [102, 117, 110, 99]) = true) : Calls Tryz.prog 14 #[.pointer (some ⟨M, 0, none⟩), .slice ta l.length tcap] W fun r w' => ∃ x, r = .returned (.int .i64 x) ∧ LineR base M mo W (pLine l) x w' := by
  have hw0 : ∀ s, wrd l 0 s = (tx.toList == s) := fun s => by rw [wrd, tokB_of h0, hk, htx, Lib.toList_data]; simp
  have HPl : Hid (pLine l = match pFun l 1 with
      | .bad e => .error e
      | .ok f j => if l.length ≤ j then .ok (.fn f) else .error 4) := by
    show _ = _
    unfold pLine
    rw [if_neg (by omega), hw0, hw0, hw0, if_neg (by rw [hx1]; simp), if_neg (by rw [hx2]; simp), if_pos hx3]
    cases pFun l 1 <;> rfl
  clear hw0
  have hE0 := eye_new ht h2 h3
  have HB0 : Hid (Below W.heap.size W (W.alloc (.cells #[.slice ta l.length tcap, .int .i64 0, .int .i64 0, .int .i64 0] 95))) := (Below.refl _ _).alloc (Nat.le_refl _) _
  have hone := one_some W.heap.size l 0 0 _ hE0 h0
  rw [hk, htx] at hone
  have HOne := veil hone
  have HMod := veil h
  have hM := h.hM
  have hbn := h.hb
  have hnW := h.hn
  have hl0 : ((l.length : Int) == 0) = false := by rw [beq_eq_false_iff_ne]; omega
  clear hone hE0 h ht h3 hk htx
  go_enter Tryz.func14, Tryz.ntmps14
  go_wp2_with fail
  refine HOne.out.mono ?_
  rintro r w1 ⟨rfl, hE1, q2⟩
  have hs1 : W.heap.size + 1 ≤ w1.heap.size := by have := q2.below.size; simpa using this
  have HB1 : Hid (Below W.heap.size W w1) := HB0.out.trans q2.below
  have hE2 := ey_alloc hE1 (.cells #[.int .i64 1, .string tx] 90)
  have HB2 : Hid (Below W.heap.size W (w1.alloc (.cells #[.int .i64 1, .string tx] 90))) := HB1.out.alloc (by omega) _
  have t0 : (w1.alloc (.cells #[.int .i64 1, .string tx] 90)).cell? ⟨w1.heap.size, 0, none⟩ = some (.int .i64 1) := World.cell?_alloc_at _ _ _ _ rfl
  have t1 : (w1.alloc (.cells #[.int .i64 1, .string tx] 90)).cell? ⟨w1.heap.size, 1, none⟩ = some (.string tx) := World.cell?_alloc_at _ _ _ _ rfl
  clear q2 hE1 HOne HB0
  have HE2 := veil (ey_below hE2 (Below.refl _ _).drew)
  obtain ⟨ys0, hrow0⟩ := HMod.out.fs
  obtain ⟨la, lcap, rfl⟩ := own_slice hrow0.own
  have cM : (w1.alloc (.cells #[.int .i64 1, .string tx] 90)).drew.cell? ⟨M, 2, none⟩ = some (Value.slice la mo.funcs.length lcap) := by
    show (w1.alloc (.cells #[.int .i64 1, .string tx] 90)).cell? _ = _
    rw [HB2.out.cell (p := ⟨M, 2, none⟩) (by show M < _; omega)]
    exact row_cell HMod.out.mod 2 _ rfl
  obtain ⟨i0, hi0, hz0, hz1, hz2⟩ := info_parts fu_info
  have HI0 := veil hi0
  have HZ0 := veil hz0
  have HZ1 := veil hz1
  have HZ2 := veil hz2
  have HNl : Hid (mo.funcs.length + 1 ≤ maxLen) := by show _ ≤ _; unfold maxLen; omega
  have HBy : Hid ((mo.funcs.length + 1) * 192 ≤ 140737488355328) := by show _ ≤ _; omega
  clear hi0 hz0 hz1 hz2 hrow0 hE2
  go_wp2_with fail
  go_region_law (first
    | (refine step_append_lies _ rfl _ _ 24 rfl base 54 i0 _ 12 192 Tryz.underlying24 HI0.out HZ0.out HZ1.out HZ2.out rfl (by omega) (Value.slice la mo.funcs.length lcap) mo.funcs.length yC rfl (HRowC.out.own.alloc _) ⟨wC.heap.size, 0, none⟩ 1 1 [.string n, .string v, .slice a m c, .int .i64 k, .string o, .string nn, .slice a1 m1 c1, .int .i64 k', .int .i64 n', .string o', .string s', .slice a2 m2 c2] rfl rfl HNews.out HOneC.out (by omega) HNl.out HBy.out HPk.out.2.1 (wC.heap.size + 1) HPk.out.1 ?_; intro g cap w6 hown6 hgrow hat hlt6; obtain ⟨z1, zf⟩ := HPk.out.2.2.1 w6 hgrow; have HG := veil (HPk.out.2.2.2 g cap w6 hown6 hgrow hat); clear hown6 hgrow hat)
    | (go_simp; refine (fun_eye W.heap.size l 1 0 _ HE2.out).mono ?_; rintro r wC ⟨q2, n, v, a, m, c, k, o, nn, a1, m1, c1, k', n', o', s', a2, m2, c2, rfl, eC, jC, q1, hrC⟩; obtain ⟨tvC, hBC, _⟩ := q1; have HRC := veil hrC; have HBx := veil hBC; have hsC : w1.heap.size + 1 ≤ wC.heap.size := (by have := q2.below.size; have e : ((w1.alloc (.cells #[.int .i64 1, .string tx] 90)).drew).heap.size = w1.heap.size + 1 := (by show ((w1.alloc (.cells #[.int .i64 1, .string tx] 90))).heap.size = _; simp); rw [e] at this; exact this); have HBC : Hid (Below W.heap.size W wC) := (HB2.out.drew).trans q2.below; have HModC := veil (HMod.out.keep (HBC.out.mono hnW)); have cC := row_cell HModC.out.mod 2 _ rfl; have cD : (wC.alloc (.cells #[.string n, .string v, .slice a m c, .int .i64 k, .string o, .string nn, .slice a1 m1 c1, .int .i64 k', .int .i64 n', .string o', .string s', .slice a2 m2 c2] 54)).cell? ⟨M, 2, none⟩ = some (Value.slice la mo.funcs.length lcap) := (by rw [World.cell?_alloc_old _ _ _ (by show M ≠ _; omega)]; exact cC); obtain ⟨yC, hrowC⟩ := HModC.out.fs; have HRowC := veil hrowC; have HPk := veil (row_pack (T := 54) (c := 12) (news := [.string n, .string v, .slice a m c, .int .i64 k, .string o, .string nn, .slice a1 m1 c1, .int .i64 k', .int .i64 n', .string o', .string s', .slice a2 m2 c2]) (Tn := 54) HModC.out (o := 2) rfl hrowC.own #[.string n, .string v, .slice a m c, .int .i64 k, .string o, .string nn, .slice a1 m1 c1, .int .i64 k', .int .i64 n', .string o', .string s', .slice a2 m2 c2]); have HNews : Hid (∀ j u, ([.string n, .string v, .slice a m c, .int .i64 k, .string o, .string nn, .slice a1 m1 c1, .int .i64 k', .int .i64 n', .string o', .string s', .slice a2 m2 c2] : List Value)[j]? = some u → (wC.alloc (.cells #[.string n, .string v, .slice a m c, .int .i64 k, .string o, .string nn, .slice a1 m1 c1, .int .i64 k', .int .i64 n', .string o', .string s', .slice a2 m2 c2] 54)).cell? ((⟨wC.heap.size, 0, none⟩ : Addr).add j) = some u) := news_new wC #[.string n, .string v, .slice a m c, .int .i64 k, .string o, .string nn, .slice a1 m1 c1, .int .i64 k', .int .i64 n', .string o', .string s', .slice a2 m2 c2] 54; have HOneC : Hid (∀ u ∈ ([.string n, .string v, .slice a m c, .int .i64 k, .string o, .string nn, .slice a1 m1 c1, .int .i64 k', .int .i64 n', .string o', .string s', .slice a2 m2 c2] : List Value), u.oneCell' = true) := (by intro u hu; simp at hu; first | (rcases hu with rfl | rfl | rfl | rfl | rfl | rfl | rfl | rfl | rfl | rfl | rfl | rfl <;> rfl) | (rw [hu]; rfl)); clear q2 hrC hBC hrowC))
  all_goals
    generalize w6.setCell ⟨M, 2, none⟩ (.slice (some ⟨g, 0, none⟩) (mo.funcs.length + 1) cap) = w7 at *
    have hsz7 := HG.out.size
    have hB7 := (HG.out.rest W.heap.size (by omega) (by omega) (fun h => by have := HRowC.out.old _ h.symm; omega)).trans HBx.out
    have e1 := row_cell hB7 1 _ rfl
    have e2 := row_cell hB7 2 _ rfl
    have HBM : Hid (BelowM base M W w7) := (BelowM.of_below HBC.out (by omega)).trans (HG.out.belowM HRowC.out.own (by omega))
    have HB7 := veil hB7
    clear hB7 z1 zf cM cC cD
    by_cases hj : jC < l.length
    · have hj' : (jC : Int) < (l.length : Int) := by omega
      go_wp2_with fail
      refine (bad_box W.heap.size tvC jC eC 0 4 _ HB7.out).mono ?_
      rintro r w8 ⟨rfl, hB8, q8⟩
      have e8 := row_cell hB8 2 _ rfl
      have HB8 : Hid (BelowM base M W w8) := HBM.out.trans (BelowM.of_below q8.below (by omega))
      clear hB8 q8 e1 e2
      go_wp2_with fail
      go_ret
      refine ⟨_, rfl, HB8.out, .inl ⟨firstOf eC 4, ?_, rfl⟩⟩
      rw [HPl.out]
      rcases HRC.out with ⟨h0', x, hp, _⟩ | ⟨hne, hp⟩
      · rw [after_ok] at hp
        rw [hp, h0']
        simp only
        rw [if_neg (by omega)]
        rfl
      · rw [after_ok] at hp
        rw [hp]
        unfold firstOf
        rw [if_neg hne]
    · have hj' : ¬ (jC : Int) < (l.length : Int) := by omega
      have hjd : decide ((jC : Int) < (l.length : Int)) = false := by simp; omega
      go_wp2_with fail
      go_ret
      refine ⟨_, rfl, ?_⟩
      have hle : l.length ≤ jC := by omega
      rcases HRC.out with ⟨h0', x, hp, hx⟩ | ⟨hne, hp⟩
      · rw [after_ok] at hp
        refine ⟨HBM.out, .inr ⟨.fn x, ?_, h0', w7.heap.size, vu, vt, _, ModAt.pushF HModC.out HRowC.out HG.out rfl (fuC_keep ⟨fun _ _ => rfl, fun b hb => ⟨by have h5 := hb.1; have h6 : (w1.alloc (.cells #[.int .i64 1, .string tx] 90)).drew.heap.size = w1.heap.size + 1 := (by show (w1.alloc _).heap.size = _; simp); omega, hb.2⟩⟩ hx)⟩⟩
        rw [HPl.out, hp]
        simp only
        rw [if_pos hle]
      · rw [after_ok] at hp
        refine ⟨HBM.out, .inl ⟨eC, ?_, rfl⟩⟩
        rw [HPl.out, hp]

end Go.Proofs.YtpamadnckijfkabGreatDoor
