/- What the reference's lineOf answers at a type. -/
import Derived.Test.YtpamadnckijfkabGreatDoorEyeLine1
namespace Go.Proofs.YtpamadnckijfkabGreatDoor
open Go.RowKit
set_option maxRecDepth 100000

set_option maxHeartbeats 16000000 in
theorem line_type (l : Toks) (ta : Option Addr) (tcap base M n1 : Nat) (mo : Mo) (vu vt vf : Value) (W : World) (h : ModAt base M n1 mo vu vt vf W) (ht : TokRow W (.slice ta l.length tcap) l) (h2 : l.length ≤ 200) (h3 : ∀ t ∈ l, faultOf t = 0) (_hu : mo.uses.length ≤ 2000) (hty : mo.types.length ≤ 2000) (_hf : mo.funcs.length ≤ 2000)
    (h0 : 0 < l.length) (tx : ByteArray) (hk : l[0].1 = 1) (htx : l[0].2 = tx) (hx1 : (tx.toList == [117, 115, 101]) = false) (hx2 : (tx.toList == [116, 121, 112, 101]) = true) : Calls Tryz.prog 14 #[.pointer (some ⟨M, 0, none⟩), .slice ta l.length tcap] W fun r w' => ∃ x, r = .returned (.int .i64 x) ∧ LineR base M mo W (pLine l) x w' := by
  have hw0 : ∀ s, wrd l 0 s = (tx.toList == s) := fun s => by rw [wrd, tokB_of h0, hk, htx, Lib.toList_data]; simp
  have HPl : Hid (pLine l = match pNamed l [61] 1 with
      | .bad e => .error e
      | .ok f j => if l.length ≤ j then .ok (.typ f) else .error 4) := by
    show _ = _
    unfold pLine
    rw [if_neg (by omega), hw0, hw0, if_neg (by rw [hx1]; simp), if_pos hx2]
    cases pNamed l [61] 1 <;> rfl
  clear hw0
  have hE0 := eye_new ht h2 h3
  have HB0 : Hid (Below W.heap.size W (W.alloc (.cells #[.slice ta l.length tcap, .int .i64 0, .int .i64 0, .int .i64 0] 95))) := (Below.refl _ _).alloc (Nat.le_refl _) _
  have hone := one_some W.heap.size l 0 0 _ hE0 h0
  rw [hk, htx] at hone
  have HOne := veil hone
  have HMod := veil h
  have hM := h.hM
  have hbn := h.hb
  have hnW := h.hn
  have hl0 : ((l.length : Int) == 0) = false := by rw [beq_eq_false_iff_ne]; omega
  clear hone hE0 h ht h3 hk htx
  go_enter Tryz.func14, Tryz.ntmps14
  go_wp2_with fail
  refine HOne.out.mono ?_
  rintro r w1 ⟨rfl, hE1, q2⟩
  have hs1 : W.heap.size + 1 ≤ w1.heap.size := by have := q2.below.size; simpa using this
  have HB1 : Hid (Below W.heap.size W w1) := HB0.out.trans q2.below
  have hE2 := ey_alloc hE1 (.cells #[.int .i64 1, .string tx] 90)
  have HB2 : Hid (Below W.heap.size W (w1.alloc (.cells #[.int .i64 1, .string tx] 90))) := HB1.out.alloc (by omega) _
  have t0 : (w1.alloc (.cells #[.int .i64 1, .string tx] 90)).cell? ⟨w1.heap.size, 0, none⟩ = some (.int .i64 1) := World.cell?_alloc_at _ _ _ _ rfl
  have t1 : (w1.alloc (.cells #[.int .i64 1, .string tx] 90)).cell? ⟨w1.heap.size, 1, none⟩ = some (.string tx) := World.cell?_alloc_at _ _ _ _ rfl
  clear q2 hE1 HOne HB0
  go_wp2_with fail
  refine (ident_eye W.heap.size l 1 0 0 _ hE2).mono ?_
  rintro r wC hq
  obtain ⟨q2, nm, jC, eC, rfl, hnmz, q1, hid⟩ := ident_st hq
  have hsC : w1.heap.size + 1 ≤ wC.heap.size := by have := q2.below.size; simpa using this
  have HBC : Hid (Below W.heap.size W (wC.alloc (.cells #[.string nm, .int .i64 0, .string ⟨#[]⟩, .string ⟨#[]⟩, .slice none 0 0] 63))) := (HB2.out.trans q2.below).alloc (by omega) _
  have hEC := ey_alloc q1 (.cells #[.string nm, .int .i64 0, .string ⟨#[]⟩, .string ⟨#[]⟩, .slice none 0 0] 63)
  have HId := veil hid
  clear hq q1 q2 hid hE2 t0 t1
  go_wp2_with fail
  refine (wants_eye W.heap.size l jC eC _ ⟨#[61]⟩ _ hEC).mono ?_
  rintro r wD ⟨rfl, q1, q2⟩
  have hsD : wC.heap.size + 1 ≤ wD.heap.size := by have := q2.below.size; simpa using this
  have HPD := veil ((q2.above wC.heap.size (by omega) (by simp)).trans (heap_alloc_new wC (.cells #[.string nm, .int .i64 0, .string ⟨#[]⟩, .string ⟨#[]⟩, .slice none 0 0] 63)))
  have HBD : Hid (Below W.heap.size W wD) := HBC.out.trans q2.below
  have hED := q1
  clear q1 q2 hEC
  go_wp2_with fail
  refine (kind_all W.heap.size l _ _ _ hED).mono ?_
  rintro r wE ⟨q2, k, o, nn, a1, m1, c1, rfl, eE, jE, hEE, hrE⟩
  have hsE := q2.below.size
  have hpE := (q2.above wC.heap.size (by omega) (by omega)).trans HPD.out
  have HBE : Hid (Below W.heap.size W wE) := HBD.out.trans q2.below
  obtain ⟨tvE, hBE, _⟩ := hEE
  have HEyeS : Hid ((((((((((wE).setCell ⟨wC.heap.size, 1, none⟩ (.int .i64 k))).setCell ⟨wC.heap.size, 2, none⟩ (.string o))).setCell ⟨wC.heap.size, 3, none⟩ (.string nn))).setCell ⟨wC.heap.size, 4, none⟩ (.slice a1 m1 c1))).heap[W.heap.size]? = some (.cells #[tvE, .int .i64 jE, .int .i64 eE, .int .i64 0] 95 (0, 0))) := (sets_other (by omega) [.int .i64 k, .string o, .string nn, .slice a1 m1 c1] 1 wE).trans hBE
  have HSS : Hid ((((((((((wE).setCell ⟨wC.heap.size, 1, none⟩ (.int .i64 k))).setCell ⟨wC.heap.size, 2, none⟩ (.string o))).setCell ⟨wC.heap.size, 3, none⟩ (.string nn))).setCell ⟨wC.heap.size, 4, none⟩ (.slice a1 m1 c1))).heap.size = wE.heap.size) := heap_size_setCells wC.heap.size [.int .i64 k, .string o, .string nn, .slice a1 m1 c1] 1 wE
  have HKS : Hid (∀ b, b ≠ wC.heap.size → (((((((((wE).setCell ⟨wC.heap.size, 1, none⟩ (.int .i64 k))).setCell ⟨wC.heap.size, 2, none⟩ (.string o))).setCell ⟨wC.heap.size, 3, none⟩ (.string nn))).setCell ⟨wC.heap.size, 4, none⟩ (.slice a1 m1 c1))).heap[b]? = wE.heap[b]?) := fun b hb => sets_other hb [.int .i64 k, .string o, .string nn, .slice a1 m1 c1] 1 wE
  have HBS : Hid (Below W.heap.size W (((((((((wE).setCell ⟨wC.heap.size, 1, none⟩ (.int .i64 k))).setCell ⟨wC.heap.size, 2, none⟩ (.string o))).setCell ⟨wC.heap.size, 3, none⟩ (.string nn))).setCell ⟨wC.heap.size, 4, none⟩ (.slice a1 m1 c1)))) := ⟨HBE.out.os, HBE.out.tape, HBE.out.output, by rw [HSS.out]; exact HBE.out.size, fun b hb => (HKS.out b (by omega)).trans (HBE.out.block b hb)⟩
  have HModS := veil (HMod.out.keep (HBS.out.mono hnW))
  obtain ⟨yt, hts⟩ := HModS.out.ts
  obtain ⟨la, lcap, rfl⟩ := own_slice hts.own
  have HTs := veil hts
  have HRE := veil hrE
  have HPS : Hid ((((((((((wE).setCell ⟨wC.heap.size, 1, none⟩ (.int .i64 k))).setCell ⟨wC.heap.size, 2, none⟩ (.string o))).setCell ⟨wC.heap.size, 3, none⟩ (.string nn))).setCell ⟨wC.heap.size, 4, none⟩ (.slice a1 m1 c1))).heap[wC.heap.size]? = some (.cells #[.string nm, .int .i64 k, .string o, .string nn, .slice a1 m1 c1] 63 (0, 0))) := block_set (block_set (block_set (block_set hpE 1 _) 2 _) 3 _) 4 _
  have p0 := row_cell hpE 0 _ rfl
  have f0 := Lib.frozen_of_heap hpE 0
  have p1 := row_cell hpE 1 _ rfl
  have f1 := Lib.frozen_of_heap hpE 1
  have p2 := row_cell hpE 2 _ rfl
  have f2 := Lib.frozen_of_heap hpE 2
  have p3 := row_cell hpE 3 _ rfl
  have f3 := Lib.frozen_of_heap hpE 3
  have p4 := row_cell hpE 4 _ rfl
  have f4 := Lib.frozen_of_heap hpE 4
  clear q2 hpE hED hrE hts hBE HPD HBD HBC HB1 HB2
  go_wp2_with fail
  generalize ((((((((wE).setCell ⟨wC.heap.size, 1, none⟩ (.int .i64 k))).setCell ⟨wC.heap.size, 2, none⟩ (.string o))).setCell ⟨wC.heap.size, 3, none⟩ (.string nn))).setCell ⟨wC.heap.size, 4, none⟩ (.slice a1 m1 c1)) = w5 at *
  clear p0 f0 p1 f1 p2 f2 p3 f3 p4 f4
  have hM5 := HModS.out.mod
  have hMlt : M < w5.heap.size := by have := HBS.out.size; omega
  have cM := row_cell hM5 1 _ rfl
  have p0 := row_cell HPS.out 0 _ rfl
  have p1 := row_cell HPS.out 1 _ rfl
  have p2 := row_cell HPS.out 2 _ rfl
  have p3 := row_cell HPS.out 3 _ rfl
  have p4 := row_cell HPS.out 4 _ rfl
  obtain ⟨i0, hi0, hz0, hz1, hz2⟩ := info_parts fd_info
  have HI0 := veil hi0
  have HZ0 := veil hz0
  have HZ1 := veil hz1
  have HZ2 := veil hz2
  have hs5 := HSS.out
  have HNews : Hid (∀ j u, ([.string nm, .int .i64 k, .string o, .string nn, .slice a1 m1 c1] : List Value)[j]? = some u → (w5.alloc (.cells #[.string nm, .int .i64 k, .string o, .string nn, .slice a1 m1 c1] 63)).drew.cell? ((⟨w5.heap.size, 0, none⟩ : Addr).add j) = some u) := fun j u hu => cell_five_new w5 _ _ _ _ _ _ j u hu
  have HOne : Hid (∀ u ∈ ([.string nm, .int .i64 k, .string o, .string nn, .slice a1 m1 c1] : List Value), u.oneCell' = true) := by
    intro u hu
    simp at hu
    rcases hu with rfl | rfl | rfl | rfl | rfl <;> rfl
  have HNl : Hid (mo.types.length + 1 ≤ maxLen) := by show _ ≤ _; unfold maxLen; omega
  have HBy : Hid ((mo.types.length + 1) * 80 ≤ 140737488355328) := by show _ ≤ _; omega
  have HH : Hid ((w5.alloc (.cells #[.string nm, .int .i64 k, .string o, .string nn, .slice a1 m1 c1] 63)).drew.heap.size = w5.heap.size + 1) := by show (w5.alloc _).heap.size = _; simp
  have HBs : Hid (base ≤ (w5.alloc (.cells #[.string nm, .int .i64 k, .string o, .string nn, .slice a1 m1 c1] 63)).drew.heap.size) := by show _ ≤ _; rw [HH.out]; have := HBS.out.size; omega
  have HFarM : Hid (some M ≠ (Value.slice la mo.types.length lcap).ownBlock) := fun h => by have := ownsRow_in HTs.out.own _ h.symm; omega
  have HOld : Hid (∀ k', k' < w5.heap.size → (w5.alloc (.cells #[.string nm, .int .i64 k, .string o, .string nn, .slice a1 m1 c1] 63)).drew.heap[k']? = w5.heap[k']?) := fun k' hk' => heap_alloc_old w5 _ hk'
  have HC2 : Hid (∀ w6, (w5.alloc (.cells #[.string nm, .int .i64 k, .string o, .string nn, .slice a1 m1 c1] 63)).drew.grownBy w6 (Value.slice la mo.types.length lcap).ownBlock → w6.cell? ⟨M, 1, none⟩ = some (Value.slice la mo.types.length lcap) ∧ w6.frozen? ⟨M, 1, none⟩ = false) := by
    intro w6 hg
    have hb6 := (hg.block M (by rw [HH.out]; omega) HFarM.out).trans ((HOld.out M hMlt).trans hM5)
    exact ⟨row_cell hb6 1 _ rfl, Lib.frozen_of_heap hb6 1⟩
  have HGr : Hid (∀ g cap w6, w6.ownsRow base 63 5 (.slice (some ⟨g, 0, none⟩) (mo.types.length + 1) cap) (mo.types.length + 1) (yt ++ [.string nm, .int .i64 k, .string o, .string nn, .slice a1 m1 c1]) → (w5.alloc (.cells #[.string nm, .int .i64 k, .string o, .string nn, .slice a1 m1 c1] 63)).drew.grownBy w6 (Value.slice la mo.types.length lcap).ownBlock → ((Value.slice la mo.types.length lcap).ownBlock = some g ∨ g = w5.heap.size + 1) → GrewM base M 1 #[vu, (Value.slice la mo.types.length lcap), vf] 63 5 (Value.slice la mo.types.length lcap) (.slice (some ⟨g, 0, none⟩) (mo.types.length + 1) cap) (mo.types.length + 1) (yt ++ [.string nm, .int .i64 k, .string o, .string nn, .slice a1 m1 c1]) w5 (w6.setCell ⟨M, 1, none⟩ (.slice (some ⟨g, 0, none⟩) (mo.types.length + 1) cap))) := fun g cap w6 ho hg hat =>
    grewM_store (W0 := (w5.alloc (.cells #[.string nm, .int .i64 k, .string o, .string nn, .slice a1 m1 c1] 63)).drew) hM (by have := HBS.out.size; omega) (by rw [HH.out]; omega) rfl rfl rfl HOld.out hg hM5 HFarM.out ho (hat.imp_right (fun h => by omega))
  clear hi0 hz0 hz1 hz2 hs5
  go_region_law (refine step_append_lies _ rfl _ _ 23 rfl base 63 i0 _ 5 80 Tryz.underlying23 HI0.out HZ0.out HZ1.out HZ2.out rfl (by omega) (Value.slice la mo.types.length lcap) mo.types.length yt rfl (HTs.out.own.alloc _).drew ⟨w5.heap.size, 0, none⟩ 1 1 [.string nm, .int .i64 k, .string o, .string nn, .slice a1 m1 c1] rfl rfl HNews.out HOne.out (by omega) HNl.out HBy.out HBs.out (w5.heap.size + 1) HH.out ?_; intro g cap w6 hown6 hgrow hat hlt6; obtain ⟨z1, zf⟩ := HC2.out w6 hgrow; have HG := veil (HGr.out g cap w6 hown6 hgrow hat); clear hown6 hgrow hat)
  all_goals
    generalize w6.setCell ⟨M, 1, none⟩ (.slice (some ⟨g, 0, none⟩) (mo.types.length + 1) cap) = w7 at *
    have hsz7 := HG.out.size
    have hs5 := HSS.out
    have hB7 := (HG.out.rest W.heap.size (by omega) (by omega) (fun h => by have := HTs.out.old _ h.symm; omega)).trans HEyeS.out
    have e1 := row_cell hB7 1 _ rfl
    have e2 := row_cell hB7 2 _ rfl
    have HBM : Hid (BelowM base M W w7) := (BelowM.of_below HBS.out (by omega)).trans (HG.out.belowM HTs.out.own (by omega))
    have hnm := named_st (s := ⟨#[61]⟩) HId.out HRE.out
    rw [after_ok] at hnm
    have HNm := veil hnm
    have HB7 := veil hB7
    clear hnm hB7 z1 zf cM p0 p1 p2 p3 p4 hs5
    by_cases hj : jE < l.length
    · have hj' : (jE : Int) < (l.length : Int) := by omega
      go_wp2_with fail
      refine (bad_box W.heap.size tvE jE eE 0 4 _ HB7.out).mono ?_
      rintro r w8 ⟨rfl, hB8, q8⟩
      have e8 := row_cell hB8 2 _ rfl
      have HB8 : Hid (BelowM base M W w8) := HBM.out.trans (BelowM.of_below q8.below (by omega))
      clear hB8 q8 e1 e2
      go_wp2_with fail
      go_ret
      refine ⟨_, rfl, HB8.out, .inl ⟨firstOf eE 4, ?_, rfl⟩⟩
      rw [HPl.out]
      rcases HNm.out with ⟨h0, t, _, hp⟩ | ⟨hne, hp⟩
      · rw [show pNamed l [61] 1 = .ok ⟨nm, t⟩ jE from hp, h0]
        simp only
        rw [if_neg (by omega)]
        rfl
      · rw [show pNamed l [61] 1 = .bad eE from hp]
        unfold firstOf
        rw [if_neg hne]
    · have hj' : ¬ (jE : Int) < (l.length : Int) := by omega
      have hjd : decide ((jE : Int) < (l.length : Int)) = false := by simp; omega
      go_wp2_with fail
      go_ret
      refine ⟨_, rfl, ?_⟩
      have hle : l.length ≤ jE := by omega
      rcases HNm.out with ⟨h0', t, ht, hp⟩ | ⟨hne, hp⟩
      · refine ⟨HBM.out, .inr ⟨.typ ⟨nm, t⟩, ?_, ?_, w7.heap.size, vu, _, vf, ModAt.pushT HModS.out HTs.out HG.out rfl ⟨_, _, _, _, _, _, rfl, hnmz, ht.keep ⟨fun b hb => HKS.out b (by have := hb.1; omega), fun b hb => ⟨by have := hb.1; omega, by rw [HSS.out]; exact hb.2⟩⟩⟩⟩⟩
        · rw [HPl.out, show pNamed l [61] 1 = .ok ⟨nm, t⟩ jE from hp]
          simp only
          rw [if_pos hle]
        · exact h0'
      · refine ⟨HBM.out, .inl ⟨eE, ?_, rfl⟩⟩
        rw [HPl.out, show pNamed l [61] 1 = .bad eE from hp]

end Go.Proofs.YtpamadnckijfkabGreatDoor
