import Derived.Test.YtagbaimfigljiaaGreatDoorJModuleUses26
import Derived.Test.YtagbaimfigljiaaGreatDoorJModuleUses12
import Derived.Test.YtagbaimfigljiaaGreatDoorJModuleUses8
import Derived.Deep.RegionLaw
namespace Go.Proofs.YtagbaimfigljiaaGreatDoor
open Go.RowKit
set_option maxRecDepth 100000

theorem fault_kinds {l : Toks} (h : ∀ t ∈ l, faultOf t = 0) : ∀ t ∈ l, t.1 = 1 ∨ t.1 = 2 ∨ t.1 = 3 ∨ t.1 = 4 := by
  intro t ht
  have := h t ht
  unfold faultOf at this
  rcases fault_sound this with ⟨h, _⟩ | ⟨h, _⟩ | ⟨h, _⟩ | ⟨h, _⟩
  · exact .inl h
  · exact .inr (.inl h)
  · exact .inr (.inr (.inl h))
  · exact .inr (.inr (.inr h))

/-- the eye, as it is made. -/
theorem eye_new {l : Toks} {v : Value} {W : World} (ht : TokRow W v l) (h2 : l.length ≤ 200) (h3 : ∀ t ∈ l, faultOf t = 0) : EyeAt W.heap.size l 0 0 0 (W.alloc (.cells #[v, .int .i64 0, .int .i64 0, .int .i64 0] 204)) :=
  ⟨v, heap_alloc_new W _, toks_of ht rfl ((Below.refl _ _).alloc (Nat.le_refl _) _) h2 h3, Nat.zero_le _, fault_kinds h3⟩

/-- 'bad' asks for the eye's own block alone. -/
theorem bad_box (B : Nat) (tv : Value) (i : Nat) (e d e' : Int) (w : World) (h : w.heap[B]? = some (.cells #[tv, .int .i64 i, .int .i64 e, .int .i64 d] 204 (0, 0))) :
    Calls Tryz.prog 145 #[.pointer (some ⟨B, 0, none⟩), .int .i64 e'] w fun r w' => r = .returned (.tuple #[]) ∧ w'.heap[B]? = some (.cells #[tv, .int .i64 i, .int .i64 (firstOf e e'), .int .i64 d] 204 (0, 0)) ∧ Moved B w w' := by
  have b2 : w.cell? ⟨B, 2, none⟩ = some (.int .i64 e) := row_cell h 2 _ rfl
  have hfz : w.frozen? ⟨B, 2, none⟩ = false := Lib.frozen_of_heap h 2
  have HH := veil h
  have HM := veil (Moved.refl B w)
  clear h
  by_cases he : e = 0
  · subst he
    have HS := veil (block_set HH.out 2 (.int .i64 e'))
    have e0 : firstOf 0 e' = e' := if_pos rfl
    rw [e0]
    go_enter Tryz.func145, Tryz.ntmps145
    go_wp2_with fail
    go_end0
    exact ⟨rfl, HS.out, HM.out.set 2 _⟩
  · have he' : (e == 0) = false := by simpa using he
    have e0 : firstOf e e' = e := if_neg he
    rw [e0]
    clear he
    go_enter Tryz.func145, Tryz.ntmps145
    go_wp2_with fail
    go_end0
    exact ⟨rfl, HH.out, HM.out⟩

end Go.Proofs.YtagbaimfigljiaaGreatDoor
namespace Go.Proofs.YtagbaimfigljiaaGreatDoor
open Go.RowKit
set_option maxRecDepth 100000

set_option maxHeartbeats 16000000 in
theorem line_type (l : Toks) (ta : Option Addr) (tcap base M n1 : Nat) (mo : Mo) (vu vt vf : Value) (W : World) (h : ModAt base M n1 mo vu vt vf W) (ht : TokRow W (.slice ta l.length tcap) l) (h2 : l.length ≤ 200) (h3 : ∀ t ∈ l, faultOf t = 0) (_hu : mo.uses.length ≤ 2000) (hty : mo.types.length ≤ 2000) (_hf : mo.funcs.length ≤ 2000)
    (h0 : 0 < l.length) (tx : ByteArray) (hk : l[0].1 = 1) (htx : l[0].2 = tx) (hx1 : (tx.toList == [117, 115, 101]) = false) (hx2 : (tx.toList == [116, 121, 112, 101]) = true) : Calls Tryz.prog 75 #[.pointer (some ⟨M, 0, none⟩), .slice ta l.length tcap] W fun r w' => ∃ x, r = .returned (.int .i64 x) ∧ LineR base M mo W (pLine l) x w' := by
  have hw0 : ∀ s, wrd l 0 s = (tx.toList == s) := fun s => by rw [wrd, tokB_of h0, hk, htx, Lib.toList_data]; simp
  have HPl : Hid (pLine l = match pNamed l [61] 1 with
      | .bad e => .error e
      | .ok f j => if l.length ≤ j then .ok (.typ f) else .error 4) := by
    show _ = _
    unfold pLine
    rw [if_neg (by omega), hw0, hw0, if_neg (by rw [hx1]; simp), if_pos hx2]
    cases pNamed l [61] 1 <;> rfl
  clear hw0
  have hE0 := eye_new ht h2 h3
  have HB0 : Hid (Below W.heap.size W (W.alloc (.cells #[.slice ta l.length tcap, .int .i64 0, .int .i64 0, .int .i64 0] 204))) := (Below.refl _ _).alloc (Nat.le_refl _) _
  have hone := one_some W.heap.size l 0 0 _ hE0 h0
  rw [hk, htx] at hone
  have HOne := veil hone
  have HMod := veil h
  have hM := h.hM
  have hbn := h.hb
  have hnW := h.hn
  have hl0 : ((l.length : Int) == 0) = false := by rw [beq_eq_false_iff_ne]; omega
  clear hone hE0 h ht h3 hk htx
  go_enter Tryz.func75, Tryz.ntmps75
  go_wp2_with fail
  refine HOne.out.mono ?_
  rintro r w1 ⟨rfl, hE1, q2⟩
  have hs1 : W.heap.size + 1 ≤ w1.heap.size := by have := q2.below.size; simpa using this
  have HB1 : Hid (Below W.heap.size W w1) := HB0.out.trans q2.below
  have hE2 := ey_alloc hE1 (.cells #[.int .i64 1, .string tx] 199)
  have HB2 : Hid (Below W.heap.size W (w1.alloc (.cells #[.int .i64 1, .string tx] 199))) := HB1.out.alloc (by omega) _
  have t0 : (w1.alloc (.cells #[.int .i64 1, .string tx] 199)).cell? ⟨w1.heap.size, 0, none⟩ = some (.int .i64 1) := World.cell?_alloc_at _ _ _ _ rfl
  have t1 : (w1.alloc (.cells #[.int .i64 1, .string tx] 199)).cell? ⟨w1.heap.size, 1, none⟩ = some (.string tx) := World.cell?_alloc_at _ _ _ _ rfl
  clear q2 hE1 HOne HB0
  go_wp2_with fail
  refine (ident_eye W.heap.size l 1 0 0 _ hE2).mono ?_
  rintro r wC hq
  obtain ⟨q2, nm, jC, eC, rfl, hnmz, q1, hid⟩ := ident_st hq
  have hsC : w1.heap.size + 1 ≤ wC.heap.size := by have := q2.below.size; simpa using this
  have HBC : Hid (Below W.heap.size W (wC.alloc (.cells #[.string nm, .int .i64 0, .string ⟨#[]⟩, .string ⟨#[]⟩, .slice none 0 0] 101))) := (HB2.out.trans q2.below).alloc (by omega) _
  have hEC := ey_alloc q1 (.cells #[.string nm, .int .i64 0, .string ⟨#[]⟩, .string ⟨#[]⟩, .slice none 0 0] 101)
  have HId := veil hid
  clear hq q1 q2 hid hE2 t0 t1
  go_wp2_with fail
  refine (wants_eye W.heap.size l jC eC _ ⟨#[61]⟩ _ hEC).mono ?_
  rintro r wD ⟨rfl, q1, q2⟩
  have hsD : wC.heap.size + 1 ≤ wD.heap.size := by have := q2.below.size; simpa using this
  have HPD := veil ((q2.above wC.heap.size (by omega) (by simp)).trans (heap_alloc_new wC (.cells #[.string nm, .int .i64 0, .string ⟨#[]⟩, .string ⟨#[]⟩, .slice none 0 0] 101)))
  have HBD : Hid (Below W.heap.size W wD) := HBC.out.trans q2.below
  have hED := q1
  clear q1 q2 hEC
  go_wp2_with fail
  refine (kind_all W.heap.size l _ _ _ hED).mono ?_
  rintro r wE ⟨q2, k, o, nn, a1, m1, c1, rfl, eE, jE, hEE, hrE⟩
  have hsE := q2.below.size
  have hpE := (q2.above wC.heap.size (by omega) (by omega)).trans HPD.out
  have HBE : Hid (Below W.heap.size W wE) := HBD.out.trans q2.below
  obtain ⟨tvE, hBE, _⟩ := hEE
  have HEyeS : Hid ((((((((((wE).setCell ⟨wC.heap.size, 1, none⟩ (.int .i64 k))).setCell ⟨wC.heap.size, 2, none⟩ (.string o))).setCell ⟨wC.heap.size, 3, none⟩ (.string nn))).setCell ⟨wC.heap.size, 4, none⟩ (.slice a1 m1 c1))).heap[W.heap.size]? = some (.cells #[tvE, .int .i64 jE, .int .i64 eE, .int .i64 0] 204 (0, 0))) := (sets_other (by omega) [.int .i64 k, .string o, .string nn, .slice a1 m1 c1] 1 wE).trans hBE
  have HSS : Hid ((((((((((wE).setCell ⟨wC.heap.size, 1, none⟩ (.int .i64 k))).setCell ⟨wC.heap.size, 2, none⟩ (.string o))).setCell ⟨wC.heap.size, 3, none⟩ (.string nn))).setCell ⟨wC.heap.size, 4, none⟩ (.slice a1 m1 c1))).heap.size = wE.heap.size) := heap_size_setCells wC.heap.size [.int .i64 k, .string o, .string nn, .slice a1 m1 c1] 1 wE
  have HKS : Hid (∀ b, b ≠ wC.heap.size → (((((((((wE).setCell ⟨wC.heap.size, 1, none⟩ (.int .i64 k))).setCell ⟨wC.heap.size, 2, none⟩ (.string o))).setCell ⟨wC.heap.size, 3, none⟩ (.string nn))).setCell ⟨wC.heap.size, 4, none⟩ (.slice a1 m1 c1))).heap[b]? = wE.heap[b]?) := fun b hb => sets_other hb [.int .i64 k, .string o, .string nn, .slice a1 m1 c1] 1 wE
  have HBS : Hid (Below W.heap.size W (((((((((wE).setCell ⟨wC.heap.size, 1, none⟩ (.int .i64 k))).setCell ⟨wC.heap.size, 2, none⟩ (.string o))).setCell ⟨wC.heap.size, 3, none⟩ (.string nn))).setCell ⟨wC.heap.size, 4, none⟩ (.slice a1 m1 c1)))) := ⟨HBE.out.os, HBE.out.tape, HBE.out.output, by rw [HSS.out]; exact HBE.out.size, fun b hb => (HKS.out b (by omega)).trans (HBE.out.block b hb)⟩
  have HModS := veil (HMod.out.keep (HBS.out.mono hnW))
  obtain ⟨yt, hts⟩ := HModS.out.ts
  obtain ⟨la, lcap, rfl⟩ := own_slice hts.own
  have HTs := veil hts
  have HRE := veil hrE
  have HPS : Hid ((((((((((wE).setCell ⟨wC.heap.size, 1, none⟩ (.int .i64 k))).setCell ⟨wC.heap.size, 2, none⟩ (.string o))).setCell ⟨wC.heap.size, 3, none⟩ (.string nn))).setCell ⟨wC.heap.size, 4, none⟩ (.slice a1 m1 c1))).heap[wC.heap.size]? = some (.cells #[.string nm, .int .i64 k, .string o, .string nn, .slice a1 m1 c1] 101 (0, 0))) := block_set (block_set (block_set (block_set hpE 1 _) 2 _) 3 _) 4 _
  have p0 := row_cell hpE 0 _ rfl
  have f0 := Lib.frozen_of_heap hpE 0
  have p1 := row_cell hpE 1 _ rfl
  have f1 := Lib.frozen_of_heap hpE 1
  have p2 := row_cell hpE 2 _ rfl
  have f2 := Lib.frozen_of_heap hpE 2
  have p3 := row_cell hpE 3 _ rfl
  have f3 := Lib.frozen_of_heap hpE 3
  have p4 := row_cell hpE 4 _ rfl
  have f4 := Lib.frozen_of_heap hpE 4
  clear q2 hpE hED hrE hts hBE HPD HBD HBC HB1 HB2
  go_wp2_with fail
  generalize ((((((((wE).setCell ⟨wC.heap.size, 1, none⟩ (.int .i64 k))).setCell ⟨wC.heap.size, 2, none⟩ (.string o))).setCell ⟨wC.heap.size, 3, none⟩ (.string nn))).setCell ⟨wC.heap.size, 4, none⟩ (.slice a1 m1 c1)) = w5 at *
  clear p0 f0 p1 f1 p2 f2 p3 f3 p4 f4
  have hM5 := HModS.out.mod
  have hMlt : M < w5.heap.size := by have := HBS.out.size; omega
  have cM := row_cell hM5 1 _ rfl
  have p0 := row_cell HPS.out 0 _ rfl
  have p1 := row_cell HPS.out 1 _ rfl
  have p2 := row_cell HPS.out 2 _ rfl
  have p3 := row_cell HPS.out 3 _ rfl
  have p4 := row_cell HPS.out 4 _ rfl
  obtain ⟨i0, hi0, hz0, hz1, hz2⟩ := info_parts fd_info
  have HI0 := veil hi0
  have HZ0 := veil hz0
  have HZ1 := veil hz1
  have HZ2 := veil hz2
  have hs5 := HSS.out
  have HNews : Hid (∀ j u, ([.string nm, .int .i64 k, .string o, .string nn, .slice a1 m1 c1] : List Value)[j]? = some u → (w5.alloc (.cells #[.string nm, .int .i64 k, .string o, .string nn, .slice a1 m1 c1] 101)).drew.cell? ((⟨w5.heap.size, 0, none⟩ : Addr).add j) = some u) := fun j u hu => cell_five_new w5 _ _ _ _ _ _ j u hu
  have HOne : Hid (∀ u ∈ ([.string nm, .int .i64 k, .string o, .string nn, .slice a1 m1 c1] : List Value), u.oneCell' = true) := by
    intro u hu
    simp at hu
    rcases hu with rfl | rfl | rfl | rfl | rfl <;> rfl
  have HNl : Hid (mo.types.length + 1 ≤ maxLen) := by show _ ≤ _; unfold maxLen; omega
  have HBy : Hid ((mo.types.length + 1) * 80 ≤ 140737488355328) := by show _ ≤ _; omega
  have HH : Hid ((w5.alloc (.cells #[.string nm, .int .i64 k, .string o, .string nn, .slice a1 m1 c1] 101)).drew.heap.size = w5.heap.size + 1) := by show (w5.alloc _).heap.size = _; simp
  have HBs : Hid (base ≤ (w5.alloc (.cells #[.string nm, .int .i64 k, .string o, .string nn, .slice a1 m1 c1] 101)).drew.heap.size) := by show _ ≤ _; rw [HH.out]; have := HBS.out.size; omega
  have HFarM : Hid (some M ≠ (Value.slice la mo.types.length lcap).ownBlock) := fun h => by have := ownsRow_in HTs.out.own _ h.symm; omega
  have HOld : Hid (∀ k', k' < w5.heap.size → (w5.alloc (.cells #[.string nm, .int .i64 k, .string o, .string nn, .slice a1 m1 c1] 101)).drew.heap[k']? = w5.heap[k']?) := fun k' hk' => heap_alloc_old w5 _ hk'
  have HC2 : Hid (∀ w6, (w5.alloc (.cells #[.string nm, .int .i64 k, .string o, .string nn, .slice a1 m1 c1] 101)).drew.grownBy w6 (Value.slice la mo.types.length lcap).ownBlock → w6.cell? ⟨M, 1, none⟩ = some (Value.slice la mo.types.length lcap) ∧ w6.frozen? ⟨M, 1, none⟩ = false) := by
    intro w6 hg
    have hb6 := (hg.block M (by rw [HH.out]; omega) HFarM.out).trans ((HOld.out M hMlt).trans hM5)
    exact ⟨row_cell hb6 1 _ rfl, Lib.frozen_of_heap hb6 1⟩
  have HGr : Hid (∀ g cap w6, w6.ownsRow base 101 5 (.slice (some ⟨g, 0, none⟩) (mo.types.length + 1) cap) (mo.types.length + 1) (yt ++ [.string nm, .int .i64 k, .string o, .string nn, .slice a1 m1 c1]) → (w5.alloc (.cells #[.string nm, .int .i64 k, .string o, .string nn, .slice a1 m1 c1] 101)).drew.grownBy w6 (Value.slice la mo.types.length lcap).ownBlock → ((Value.slice la mo.types.length lcap).ownBlock = some g ∨ g = w5.heap.size + 1) → GrewM base M 1 #[vu, (Value.slice la mo.types.length lcap), vf] 101 5 (Value.slice la mo.types.length lcap) (.slice (some ⟨g, 0, none⟩) (mo.types.length + 1) cap) (mo.types.length + 1) (yt ++ [.string nm, .int .i64 k, .string o, .string nn, .slice a1 m1 c1]) w5 (w6.setCell ⟨M, 1, none⟩ (.slice (some ⟨g, 0, none⟩) (mo.types.length + 1) cap))) := fun g cap w6 ho hg hat =>
    grewM_store (W0 := (w5.alloc (.cells #[.string nm, .int .i64 k, .string o, .string nn, .slice a1 m1 c1] 101)).drew) hM (by have := HBS.out.size; omega) (by rw [HH.out]; omega) rfl rfl rfl HOld.out hg hM5 HFarM.out ho (hat.imp_right (fun h => by omega))
  clear hi0 hz0 hz1 hz2 hs5
  go_region_law (refine step_append_lies _ rfl _ _ 41 rfl base 101 i0 _ 5 80 Tryz.underlying41 HI0.out HZ0.out HZ1.out HZ2.out rfl (by omega) (Value.slice la mo.types.length lcap) mo.types.length yt rfl (HTs.out.own.alloc _).drew ⟨w5.heap.size, 0, none⟩ 1 1 [.string nm, .int .i64 k, .string o, .string nn, .slice a1 m1 c1] rfl rfl HNews.out HOne.out (by omega) HNl.out HBy.out HBs.out (w5.heap.size + 1) HH.out ?_; intro g cap w6 hown6 hgrow hat hlt6; obtain ⟨z1, zf⟩ := HC2.out w6 hgrow; have HG := veil (HGr.out g cap w6 hown6 hgrow hat); clear hown6 hgrow hat)
  all_goals
    generalize w6.setCell ⟨M, 1, none⟩ (.slice (some ⟨g, 0, none⟩) (mo.types.length + 1) cap) = w7 at *
    have hsz7 := HG.out.size
    have hs5 := HSS.out
    have hB7 := (HG.out.rest W.heap.size (by omega) (by omega) (fun h => by have := HTs.out.old _ h.symm; omega)).trans HEyeS.out
    have e1 := row_cell hB7 1 _ rfl
    have e2 := row_cell hB7 2 _ rfl
    have HBM : Hid (BelowM base M W w7) := (BelowM.of_below HBS.out (by omega)).trans (HG.out.belowM HTs.out.own (by omega))
    have hnm := named_st (s := ⟨#[61]⟩) HId.out HRE.out
    rw [after_ok] at hnm
    have HNm := veil hnm
    have HB7 := veil hB7
    clear hnm hB7 z1 zf cM p0 p1 p2 p3 p4 hs5
    by_cases hj : jE < l.length
    · have hj' : (jE : Int) < (l.length : Int) := by omega
      go_wp2_with fail
      refine (bad_box W.heap.size tvE jE eE 0 4 _ HB7.out).mono ?_
      rintro r w8 ⟨rfl, hB8, q8⟩
      have e8 := row_cell hB8 2 _ rfl
      have HB8 : Hid (BelowM base M W w8) := HBM.out.trans (BelowM.of_below q8.below (by omega))
      clear hB8 q8 e1 e2
      go_wp2_with fail
      go_ret
      refine ⟨_, rfl, HB8.out, .inl ⟨firstOf eE 4, ?_, rfl⟩⟩
      rw [HPl.out]
      rcases HNm.out with ⟨h0, t, _, hp⟩ | ⟨hne, hp⟩
      · rw [show pNamed l [61] 1 = .ok ⟨nm, t⟩ jE from hp, h0]
        simp only
        rw [if_neg (by omega)]
        rfl
      · rw [show pNamed l [61] 1 = .bad eE from hp]
        unfold firstOf
        rw [if_neg hne]
    · have hj' : ¬ (jE : Int) < (l.length : Int) := by omega
      have hjd : decide ((jE : Int) < (l.length : Int)) = false := by simp; omega
      go_wp2_with fail
      go_ret
      refine ⟨_, rfl, ?_⟩
      have hle : l.length ≤ jE := by omega
      rcases HNm.out with ⟨h0', t, ht, hp⟩ | ⟨hne, hp⟩
      · refine ⟨HBM.out, .inr ⟨.typ ⟨nm, t⟩, ?_, ?_, w7.heap.size, vu, _, vf, ModAt.pushT HModS.out HTs.out HG.out rfl ⟨_, _, _, _, _, _, rfl, hnmz, ht.keep ⟨fun b hb => HKS.out b (by have := hb.1; omega), fun b hb => ⟨by have := hb.1; omega, by rw [HSS.out]; exact hb.2⟩⟩⟩⟩⟩
        · rw [HPl.out, show pNamed l [61] 1 = .ok ⟨nm, t⟩ jE from hp]
          simp only
          rw [if_pos hle]
        · exact h0'
      · refine ⟨HBM.out, .inl ⟨eE, ?_, rfl⟩⟩
        rw [HPl.out, show pNamed l [61] 1 = .bad eE from hp]

end Go.Proofs.YtagbaimfigljiaaGreatDoor
namespace Go.Proofs.YtagbaimfigljiaaGreatDoor
open Go.RowKit
set_option maxRecDepth 100000

theorem news_new (W : World) (cs : Array Value) (T : TypeId) : ∀ j u, cs.toList[j]? = some u → (W.alloc (.cells cs T)).cell? ((⟨W.heap.size, 0, none⟩ : Addr).add j) = some u := by
  intro j u hu
  rw [Go.WideShapes.add_plain, World.cell?_alloc_at _ _ _ _ rfl, Nat.zero_add]
  simpa using hu

/-- what an append to one of the module's rows leaves. -/
theorem row_pack {base M n1 o c n : Nat} {T : TypeId} {mo : Mo} {vu vt vf : Value} {la : Option Addr} {lcap : Nat} {ys news : List Value} {C : World} {Tn : TypeId} (hmod : ModAt base M n1 mo vu vt vf C) (hcell : (#[vu, vt, vf] : Array Value)[o]? = some (.slice la n lcap)) (hown : C.ownsRow base T c (.slice la n lcap) n ys) (cs : Array Value) :
    (C.alloc (.cells cs Tn)).heap.size = C.heap.size + 1 ∧ base ≤ (C.alloc (.cells cs Tn)).heap.size ∧
    (∀ w6, (C.alloc (.cells cs Tn)).grownBy w6 (Value.slice la n lcap).ownBlock → w6.cell? ⟨M, o, none⟩ = some (.slice la n lcap) ∧ w6.frozen? ⟨M, o, none⟩ = false) ∧
    (∀ g cap w6, w6.ownsRow base T c (.slice (some ⟨g, 0, none⟩) (n + 1) cap) (n + 1) (ys ++ news) → (C.alloc (.cells cs Tn)).grownBy w6 (Value.slice la n lcap).ownBlock → ((Value.slice la n lcap).ownBlock = some g ∨ g = C.heap.size + 1) →
      GrewM base M o #[vu, vt, vf] T c (.slice la n lcap) (.slice (some ⟨g, 0, none⟩) (n + 1) cap) (n + 1) (ys ++ news) C (w6.setCell ⟨M, o, none⟩ (.slice (some ⟨g, 0, none⟩) (n + 1) cap))) := by
  have hM := hmod.hM
  have hb := hmod.hb
  have hn := hmod.hn
  have hH : (C.alloc (.cells cs Tn)).heap.size = C.heap.size + 1 := by simp
  have hFar : some M ≠ (Value.slice la n lcap).ownBlock := fun h => by have := ownsRow_in hown _ h.symm; omega
  have hOld : ∀ k', k' < C.heap.size → (C.alloc (.cells cs Tn)).heap[k']? = C.heap[k']? := fun k' hk' => heap_alloc_old C _ hk'
  refine ⟨hH, by omega, fun w6 hg => ?_, fun g cap w6 ho hg hat => ?_⟩
  · have hb6 := (hg.block M (by omega) hFar).trans ((hOld M (by omega)).trans hmod.mod)
    exact ⟨row_cell hb6 o _ hcell, Lib.frozen_of_heap hb6 o⟩
  · exact grewM_store (W0 := C.alloc (.cells cs Tn)) hM (by omega) (by omega) rfl rfl rfl hOld hg hmod.mod hFar ho (hat.imp_right (fun h => by omega))

set_option maxHeartbeats 16000000 in
theorem line_use (l : Toks) (ta : Option Addr) (tcap base M n1 : Nat) (mo : Mo) (vu vt vf : Value) (W : World) (h : ModAt base M n1 mo vu vt vf W) (ht : TokRow W (.slice ta l.length tcap) l) (h2 : l.length ≤ 200) (h3 : ∀ t ∈ l, faultOf t = 0) (hu : mo.uses.length ≤ 2000) (_hty : mo.types.length ≤ 2000) (_hf : mo.funcs.length ≤ 2000)
    (h0 : 0 < l.length) (tx : ByteArray) (hk : l[0].1 = 1) (htx : l[0].2 = tx) (hx1 : (tx.toList == [117, 115, 101]) = true) : Calls Tryz.prog 75 #[.pointer (some ⟨M, 0, none⟩), .slice ta l.length tcap] W fun r w' => ∃ x, r = .returned (.int .i64 x) ∧ LineR base M mo W (pLine l) x w' := by
  have hw0 : ∀ s, wrd l 0 s = (tx.toList == s) := fun s => by rw [wrd, tokB_of h0, hk, htx, Lib.toList_data]; simp
  have HPl : Hid (pLine l = match identAt l 1 with
      | none => .error 4
      | some n => if l.length ≤ 2 then .ok (.use n) else .error 4) := by
    show _ = _
    unfold pLine
    rw [if_neg (by omega), hw0, if_pos hx1]
    cases identAt l 1 <;> rfl
  clear hw0
  have hE0 := eye_new ht h2 h3
  have HB0 : Hid (Below W.heap.size W (W.alloc (.cells #[.slice ta l.length tcap, .int .i64 0, .int .i64 0, .int .i64 0] 204))) := (Below.refl _ _).alloc (Nat.le_refl _) _
  have hone := one_some W.heap.size l 0 0 _ hE0 h0
  rw [hk, htx] at hone
  have HOne := veil hone
  have HMod := veil h
  have hM := h.hM
  have hbn := h.hb
  have hnW := h.hn
  have hl0 : ((l.length : Int) == 0) = false := by rw [beq_eq_false_iff_ne]; omega
  clear hone hE0 h ht h3 hk htx
  go_enter Tryz.func75, Tryz.ntmps75
  go_wp2_with fail
  refine HOne.out.mono ?_
  rintro r w1 ⟨rfl, hE1, q2⟩
  have hs1 : W.heap.size + 1 ≤ w1.heap.size := by have := q2.below.size; simpa using this
  have HB1 : Hid (Below W.heap.size W w1) := HB0.out.trans q2.below
  have hE2 := ey_alloc hE1 (.cells #[.int .i64 1, .string tx] 199)
  have HB2 : Hid (Below W.heap.size W (w1.alloc (.cells #[.int .i64 1, .string tx] 199))) := HB1.out.alloc (by omega) _
  have t0 : (w1.alloc (.cells #[.int .i64 1, .string tx] 199)).cell? ⟨w1.heap.size, 0, none⟩ = some (.int .i64 1) := World.cell?_alloc_at _ _ _ _ rfl
  have t1 : (w1.alloc (.cells #[.int .i64 1, .string tx] 199)).cell? ⟨w1.heap.size, 1, none⟩ = some (.string tx) := World.cell?_alloc_at _ _ _ _ rfl
  clear q2 hE1 HOne HB0
  have HE2 := veil (ey_below hE2 (Below.refl _ _).drew)
  obtain ⟨ys0, hrow0⟩ := HMod.out.us
  obtain ⟨la, lcap, rfl⟩ := own_slice hrow0.own
  have cM : (w1.alloc (.cells #[.int .i64 1, .string tx] 199)).drew.cell? ⟨M, 0, none⟩ = some (Value.slice la mo.uses.length lcap) := by
    show (w1.alloc (.cells #[.int .i64 1, .string tx] 199)).cell? _ = _
    rw [HB2.out.cell (p := ⟨M, 0, none⟩) (by show M < _; omega)]
    exact row_cell HMod.out.mod 0 _ rfl
  obtain ⟨i0, hi0, hz0, hz1, hz2⟩ := info_parts st_info
  have HI0 := veil hi0
  have HZ0 := veil hz0
  have HZ1 := veil hz1
  have HZ2 := veil hz2
  have HNl : Hid (mo.uses.length + 1 ≤ maxLen) := by show _ ≤ _; unfold maxLen; omega
  have HBy : Hid ((mo.uses.length + 1) * 16 ≤ 140737488355328) := by show _ ≤ _; omega
  clear hi0 hz0 hz1 hz2 hrow0 hE2
  go_wp2_with fail
  go_region_law (first
    | (refine step_append_lies _ rfl _ _ 22 rfl base 9 i0 _ 1 16 Tryz.underlying22 HI0.out HZ0.out HZ1.out HZ2.out rfl (by omega) (Value.slice la mo.uses.length lcap) mo.uses.length yC rfl (HRowC.out.own.alloc _) ⟨wC.heap.size, 0, none⟩ 1 1 [.string nm] rfl rfl HNews.out HOneC.out (by omega) HNl.out HBy.out HPk.out.2.1 (wC.heap.size + 1) HPk.out.1 ?_; intro g cap w6 hown6 hgrow hat hlt6; obtain ⟨z1, zf⟩ := HPk.out.2.2.1 w6 hgrow; have HG := veil (HPk.out.2.2.2 g cap w6 hown6 hgrow hat); clear hown6 hgrow hat)
    | (go_simp; refine (ident_eye W.heap.size l 1 0 0 _ HE2.out).mono ?_; rintro r wC hq; obtain ⟨q2, nm, jC, eC, rfl, hnmz, q1, hid⟩ := ident_st hq; obtain ⟨tvC, hBC, _⟩ := q1; have HId := veil hid; have HBx := veil hBC; have hsC : w1.heap.size + 1 ≤ wC.heap.size := (by have := q2.below.size; have e : ((w1.alloc (.cells #[.int .i64 1, .string tx] 199)).drew).heap.size = w1.heap.size + 1 := (by show ((w1.alloc (.cells #[.int .i64 1, .string tx] 199))).heap.size = _; simp); rw [e] at this; exact this); have HBC : Hid (Below W.heap.size W wC) := (HB2.out.drew).trans q2.below; have HModC := veil (HMod.out.keep (HBC.out.mono hnW)); have cC := row_cell HModC.out.mod 0 _ rfl; have cD : (wC.alloc (.cells #[.string nm] 9)).cell? ⟨M, 0, none⟩ = some (Value.slice la mo.uses.length lcap) := (by rw [World.cell?_alloc_old _ _ _ (by show M ≠ _; omega)]; exact cC); obtain ⟨yC, hrowC⟩ := HModC.out.us; have HRowC := veil hrowC; have HPk := veil (row_pack (T := 9) (c := 1) (news := [.string nm]) (Tn := 9) HModC.out (o := 0) rfl hrowC.own #[.string nm]); have HNews : Hid (∀ j u, ([.string nm] : List Value)[j]? = some u → (wC.alloc (.cells #[.string nm] 9)).cell? ((⟨wC.heap.size, 0, none⟩ : Addr).add j) = some u) := news_new wC #[.string nm] 9; have HOneC : Hid (∀ u ∈ ([.string nm] : List Value), u.oneCell' = true) := (by intro u hu; simp at hu; first | (rcases hu with rfl | rfl | rfl | rfl | rfl | rfl | rfl | rfl | rfl | rfl | rfl | rfl <;> rfl) | (rw [hu]; rfl)); clear hq q2 hid hBC hrowC))
  all_goals
    generalize w6.setCell ⟨M, 0, none⟩ (.slice (some ⟨g, 0, none⟩) (mo.uses.length + 1) cap) = w7 at *
    have hsz7 := HG.out.size
    have hB7 := (HG.out.rest W.heap.size (by omega) (by omega) (fun h => by have := HRowC.out.old _ h.symm; omega)).trans HBx.out
    have e1 := row_cell hB7 1 _ rfl
    have e2 := row_cell hB7 2 _ rfl
    have HBM : Hid (BelowM base M W w7) := (BelowM.of_below HBC.out (by omega)).trans (HG.out.belowM HRowC.out.own (by omega))
    have HB7 := veil hB7
    clear hB7 z1 zf cM cC cD
    by_cases hj : jC < l.length
    · have hj' : (jC : Int) < (l.length : Int) := by omega
      go_wp2_with fail
      refine (bad_box W.heap.size tvC jC eC 0 4 _ HB7.out).mono ?_
      rintro r w8 ⟨rfl, hB8, q8⟩
      have e8 := row_cell hB8 2 _ rfl
      have HB8 : Hid (BelowM base M W w8) := HBM.out.trans (BelowM.of_below q8.below (by omega))
      clear hB8 q8 e1 e2
      go_wp2_with fail
      go_ret
      refine ⟨_, rfl, HB8.out, .inl ⟨firstOf eC 4, ?_, rfl⟩⟩
      rw [HPl.out]
      rcases HId.out with ⟨_, hi, hj2, h0'⟩ | ⟨hb, h4⟩
      · rw [hi, h0']
        simp only
        rw [if_neg (by omega)]
        rfl
      · rw [hb.resolve_left (by simp), h4]
        rfl
    · have hj' : ¬ (jC : Int) < (l.length : Int) := by omega
      have hjd : decide ((jC : Int) < (l.length : Int)) = false := by simp; omega
      go_wp2_with fail
      go_ret
      refine ⟨_, rfl, ?_⟩
      have hle : l.length ≤ jC := by omega
      rcases HId.out with ⟨_, hi, hj2, h0'⟩ | ⟨hb, h4⟩
      · refine ⟨HBM.out, .inr ⟨.use nm, ?_, h0', w7.heap.size, _, vt, vf, ModAt.pushU HModC.out HRowC.out HG.out hnmz⟩⟩
        rw [HPl.out, hi]
        simp only
        rw [if_pos (by omega)]
      · refine ⟨HBM.out, .inl ⟨eC, ?_, rfl⟩⟩
        rw [HPl.out, hb.resolve_left (by simp), h4]
        rfl

end Go.Proofs.YtagbaimfigljiaaGreatDoor
namespace Go.Proofs.YtagbaimfigljiaaGreatDoor
open Go.RowKit
set_option maxRecDepth 100000

set_option maxHeartbeats 16000000 in
theorem line_fun (l : Toks) (ta : Option Addr) (tcap base M n1 : Nat) (mo : Mo) (vu vt vf : Value) (W : World) (h : ModAt base M n1 mo vu vt vf W) (ht : TokRow W (.slice ta l.length tcap) l) (h2 : l.length ≤ 200) (h3 : ∀ t ∈ l, faultOf t = 0) (_hu : mo.uses.length ≤ 2000) (_hty : mo.types.length ≤ 2000) (hf : mo.funcs.length ≤ 2000)
    (h0 : 0 < l.length) (tx : ByteArray) (hk : l[0].1 = 1) (htx : l[0].2 = tx) (hx1 : (tx.toList == [117, 115, 101]) = false) (hx2 : (tx.toList == [116, 121, 112, 101]) = false) (hx3 : (tx.toList == [102, 117, 110, 99]) = true) : Calls Tryz.prog 75 #[.pointer (some ⟨M, 0, none⟩), .slice ta l.length tcap] W fun r w' => ∃ x, r = .returned (.int .i64 x) ∧ LineR base M mo W (pLine l) x w' := by
  have hw0 : ∀ s, wrd l 0 s = (tx.toList == s) := fun s => by rw [wrd, tokB_of h0, hk, htx, Lib.toList_data]; simp
  have HPl : Hid (pLine l = match pFun l 1 with
      | .bad e => .error e
      | .ok f j => if l.length ≤ j then .ok (.fn f) else .error 4) := by
    show _ = _
    unfold pLine
    rw [if_neg (by omega), hw0, hw0, hw0, if_neg (by rw [hx1]; simp), if_neg (by rw [hx2]; simp), if_pos hx3]
    cases pFun l 1 <;> rfl
  clear hw0
  have hE0 := eye_new ht h2 h3
  have HB0 : Hid (Below W.heap.size W (W.alloc (.cells #[.slice ta l.length tcap, .int .i64 0, .int .i64 0, .int .i64 0] 204))) := (Below.refl _ _).alloc (Nat.le_refl _) _
  have hone := one_some W.heap.size l 0 0 _ hE0 h0
  rw [hk, htx] at hone
  have HOne := veil hone
  have HMod := veil h
  have hM := h.hM
  have hbn := h.hb
  have hnW := h.hn
  have hl0 : ((l.length : Int) == 0) = false := by rw [beq_eq_false_iff_ne]; omega
  clear hone hE0 h ht h3 hk htx
  go_enter Tryz.func75, Tryz.ntmps75
  go_wp2_with fail
  refine HOne.out.mono ?_
  rintro r w1 ⟨rfl, hE1, q2⟩
  have hs1 : W.heap.size + 1 ≤ w1.heap.size := by have := q2.below.size; simpa using this
  have HB1 : Hid (Below W.heap.size W w1) := HB0.out.trans q2.below
  have hE2 := ey_alloc hE1 (.cells #[.int .i64 1, .string tx] 199)
  have HB2 : Hid (Below W.heap.size W (w1.alloc (.cells #[.int .i64 1, .string tx] 199))) := HB1.out.alloc (by omega) _
  have t0 : (w1.alloc (.cells #[.int .i64 1, .string tx] 199)).cell? ⟨w1.heap.size, 0, none⟩ = some (.int .i64 1) := World.cell?_alloc_at _ _ _ _ rfl
  have t1 : (w1.alloc (.cells #[.int .i64 1, .string tx] 199)).cell? ⟨w1.heap.size, 1, none⟩ = some (.string tx) := World.cell?_alloc_at _ _ _ _ rfl
  clear q2 hE1 HOne HB0
  have HE2 := veil (ey_below hE2 (Below.refl _ _).drew)
  obtain ⟨ys0, hrow0⟩ := HMod.out.fs
  obtain ⟨la, lcap, rfl⟩ := own_slice hrow0.own
  have cM : (w1.alloc (.cells #[.int .i64 1, .string tx] 199)).drew.cell? ⟨M, 2, none⟩ = some (Value.slice la mo.funcs.length lcap) := by
    show (w1.alloc (.cells #[.int .i64 1, .string tx] 199)).cell? _ = _
    rw [HB2.out.cell (p := ⟨M, 2, none⟩) (by show M < _; omega)]
    exact row_cell HMod.out.mod 2 _ rfl
  obtain ⟨i0, hi0, hz0, hz1, hz2⟩ := info_parts fu_info
  have HI0 := veil hi0
  have HZ0 := veil hz0
  have HZ1 := veil hz1
  have HZ2 := veil hz2
  have HNl : Hid (mo.funcs.length + 1 ≤ maxLen) := by show _ ≤ _; unfold maxLen; omega
  have HBy : Hid ((mo.funcs.length + 1) * 192 ≤ 140737488355328) := by show _ ≤ _; omega
  clear hi0 hz0 hz1 hz2 hrow0 hE2
  go_wp2_with fail
  go_region_law (first
    | (refine step_append_lies _ rfl _ _ 42 rfl base 89 i0 _ 12 192 Tryz.underlying42 HI0.out HZ0.out HZ1.out HZ2.out rfl (by omega) (Value.slice la mo.funcs.length lcap) mo.funcs.length yC rfl (HRowC.out.own.alloc _) ⟨wC.heap.size, 0, none⟩ 1 1 [.string n, .string v, .slice a m c, .int .i64 k, .string o, .string nn, .slice a1 m1 c1, .int .i64 k', .int .i64 n', .string o', .string s', .slice a2 m2 c2] rfl rfl HNews.out HOneC.out (by omega) HNl.out HBy.out HPk.out.2.1 (wC.heap.size + 1) HPk.out.1 ?_; intro g cap w6 hown6 hgrow hat hlt6; obtain ⟨z1, zf⟩ := HPk.out.2.2.1 w6 hgrow; have HG := veil (HPk.out.2.2.2 g cap w6 hown6 hgrow hat); clear hown6 hgrow hat)
    | (go_simp; refine (fun_eye W.heap.size l 1 0 _ HE2.out).mono ?_; rintro r wC ⟨q2, n, v, a, m, c, k, o, nn, a1, m1, c1, k', n', o', s', a2, m2, c2, rfl, eC, jC, q1, hrC⟩; obtain ⟨tvC, hBC, _⟩ := q1; have HRC := veil hrC; have HBx := veil hBC; have hsC : w1.heap.size + 1 ≤ wC.heap.size := (by have := q2.below.size; have e : ((w1.alloc (.cells #[.int .i64 1, .string tx] 199)).drew).heap.size = w1.heap.size + 1 := (by show ((w1.alloc (.cells #[.int .i64 1, .string tx] 199))).heap.size = _; simp); rw [e] at this; exact this); have HBC : Hid (Below W.heap.size W wC) := (HB2.out.drew).trans q2.below; have HModC := veil (HMod.out.keep (HBC.out.mono hnW)); have cC := row_cell HModC.out.mod 2 _ rfl; have cD : (wC.alloc (.cells #[.string n, .string v, .slice a m c, .int .i64 k, .string o, .string nn, .slice a1 m1 c1, .int .i64 k', .int .i64 n', .string o', .string s', .slice a2 m2 c2] 89)).cell? ⟨M, 2, none⟩ = some (Value.slice la mo.funcs.length lcap) := (by rw [World.cell?_alloc_old _ _ _ (by show M ≠ _; omega)]; exact cC); obtain ⟨yC, hrowC⟩ := HModC.out.fs; have HRowC := veil hrowC; have HPk := veil (row_pack (T := 89) (c := 12) (news := [.string n, .string v, .slice a m c, .int .i64 k, .string o, .string nn, .slice a1 m1 c1, .int .i64 k', .int .i64 n', .string o', .string s', .slice a2 m2 c2]) (Tn := 89) HModC.out (o := 2) rfl hrowC.own #[.string n, .string v, .slice a m c, .int .i64 k, .string o, .string nn, .slice a1 m1 c1, .int .i64 k', .int .i64 n', .string o', .string s', .slice a2 m2 c2]); have HNews : Hid (∀ j u, ([.string n, .string v, .slice a m c, .int .i64 k, .string o, .string nn, .slice a1 m1 c1, .int .i64 k', .int .i64 n', .string o', .string s', .slice a2 m2 c2] : List Value)[j]? = some u → (wC.alloc (.cells #[.string n, .string v, .slice a m c, .int .i64 k, .string o, .string nn, .slice a1 m1 c1, .int .i64 k', .int .i64 n', .string o', .string s', .slice a2 m2 c2] 89)).cell? ((⟨wC.heap.size, 0, none⟩ : Addr).add j) = some u) := news_new wC #[.string n, .string v, .slice a m c, .int .i64 k, .string o, .string nn, .slice a1 m1 c1, .int .i64 k', .int .i64 n', .string o', .string s', .slice a2 m2 c2] 89; have HOneC : Hid (∀ u ∈ ([.string n, .string v, .slice a m c, .int .i64 k, .string o, .string nn, .slice a1 m1 c1, .int .i64 k', .int .i64 n', .string o', .string s', .slice a2 m2 c2] : List Value), u.oneCell' = true) := (by intro u hu; simp at hu; first | (rcases hu with rfl | rfl | rfl | rfl | rfl | rfl | rfl | rfl | rfl | rfl | rfl | rfl <;> rfl) | (rw [hu]; rfl)); clear q2 hrC hBC hrowC))
  all_goals
    generalize w6.setCell ⟨M, 2, none⟩ (.slice (some ⟨g, 0, none⟩) (mo.funcs.length + 1) cap) = w7 at *
    have hsz7 := HG.out.size
    have hB7 := (HG.out.rest W.heap.size (by omega) (by omega) (fun h => by have := HRowC.out.old _ h.symm; omega)).trans HBx.out
    have e1 := row_cell hB7 1 _ rfl
    have e2 := row_cell hB7 2 _ rfl
    have HBM : Hid (BelowM base M W w7) := (BelowM.of_below HBC.out (by omega)).trans (HG.out.belowM HRowC.out.own (by omega))
    have HB7 := veil hB7
    clear hB7 z1 zf cM cC cD
    by_cases hj : jC < l.length
    · have hj' : (jC : Int) < (l.length : Int) := by omega
      go_wp2_with fail
      refine (bad_box W.heap.size tvC jC eC 0 4 _ HB7.out).mono ?_
      rintro r w8 ⟨rfl, hB8, q8⟩
      have e8 := row_cell hB8 2 _ rfl
      have HB8 : Hid (BelowM base M W w8) := HBM.out.trans (BelowM.of_below q8.below (by omega))
      clear hB8 q8 e1 e2
      go_wp2_with fail
      go_ret
      refine ⟨_, rfl, HB8.out, .inl ⟨firstOf eC 4, ?_, rfl⟩⟩
      rw [HPl.out]
      rcases HRC.out with ⟨h0', x, hp, _⟩ | ⟨hne, hp⟩
      · rw [after_ok] at hp
        rw [hp, h0']
        simp only
        rw [if_neg (by omega)]
        rfl
      · rw [after_ok] at hp
        rw [hp]
        unfold firstOf
        rw [if_neg hne]
    · have hj' : ¬ (jC : Int) < (l.length : Int) := by omega
      have hjd : decide ((jC : Int) < (l.length : Int)) = false := by simp; omega
      go_wp2_with fail
      go_ret
      refine ⟨_, rfl, ?_⟩
      have hle : l.length ≤ jC := by omega
      rcases HRC.out with ⟨h0', x, hp, hx⟩ | ⟨hne, hp⟩
      · rw [after_ok] at hp
        refine ⟨HBM.out, .inr ⟨.fn x, ?_, h0', w7.heap.size, vu, vt, _, ModAt.pushF HModC.out HRowC.out HG.out rfl (fuC_keep ⟨fun _ _ => rfl, fun b hb => ⟨by have h5 := hb.1; have h6 : (w1.alloc (.cells #[.int .i64 1, .string tx] 199)).drew.heap.size = w1.heap.size + 1 := (by show (w1.alloc _).heap.size = _; simp); omega, hb.2⟩⟩ hx)⟩⟩
        rw [HPl.out, hp]
        simp only
        rw [if_pos hle]
      · rw [after_ok] at hp
        refine ⟨HBM.out, .inl ⟨eC, ?_, rfl⟩⟩
        rw [HPl.out, hp]

end Go.Proofs.YtagbaimfigljiaaGreatDoor
namespace Go.Proofs.YtagbaimfigljiaaGreatDoor
open Go.RowKit
set_option maxRecDepth 100000

set_option maxHeartbeats 8000000 in
theorem line_other (l : Toks) (ta : Option Addr) (tcap base M n1 : Nat) (mo : Mo) (vu vt vf : Value) (W : World) (h : ModAt base M n1 mo vu vt vf W) (ht : TokRow W (.slice ta l.length tcap) l) (h2 : l.length ≤ 200) (h3 : ∀ t ∈ l, faultOf t = 0) (h0 : 0 < l.length) (tx : ByteArray) (hk : l[0].1 = 1) (htx : l[0].2 = tx) (hx1 : (tx.toList == [117, 115, 101]) = false) (hx2 : (tx.toList == [116, 121, 112, 101]) = false) (hx3 : (tx.toList == [102, 117, 110, 99]) = false) : Calls Tryz.prog 75 #[.pointer (some ⟨M, 0, none⟩), .slice ta l.length tcap] W fun r w' => ∃ x, r = .returned (.int .i64 x) ∧ LineR base M mo W (pLine l) x w' := by
  have hw0 : ∀ s, wrd l 0 s = (tx.toList == s) := fun s => by rw [wrd, tokB_of h0, hk, htx, Lib.toList_data]; simp
  have HPl : Hid (pLine l = .error 4) := by
    show _ = _
    unfold pLine
    rw [if_neg (by omega), hw0, hw0, hw0, if_neg (by rw [hx1]; simp), if_neg (by rw [hx2]; simp), if_neg (by rw [hx3]; simp)]
  clear hw0
  have hE0 := eye_new ht h2 h3
  have HB0 : Hid (Below W.heap.size W (W.alloc (.cells #[.slice ta l.length tcap, .int .i64 0, .int .i64 0, .int .i64 0] 204))) := (Below.refl _ _).alloc (Nat.le_refl _) _
  have hone := one_some W.heap.size l 0 0 _ hE0 h0
  rw [hk, htx] at hone
  have HOne := veil hone
  have HMod := veil h
  have hM := h.hM
  have hbn := h.hb
  have hnW := h.hn
  have hl0 : ((l.length : Int) == 0) = false := by rw [beq_eq_false_iff_ne]; omega
  clear hone hE0 h ht h3 hk htx
  go_enter Tryz.func75, Tryz.ntmps75
  go_wp2_with fail
  refine HOne.out.mono ?_
  rintro r w1 ⟨rfl, hE1, q2⟩
  have hs1 : W.heap.size + 1 ≤ w1.heap.size := by have := q2.below.size; simpa using this
  have HB1 : Hid (Below W.heap.size W w1) := HB0.out.trans q2.below
  have hE2 := ey_alloc hE1 (.cells #[.int .i64 1, .string tx] 199)
  have HB2 : Hid (Below W.heap.size W (w1.alloc (.cells #[.int .i64 1, .string tx] 199))) := HB1.out.alloc (by omega) _
  have t0 : (w1.alloc (.cells #[.int .i64 1, .string tx] 199)).cell? ⟨w1.heap.size, 0, none⟩ = some (.int .i64 1) := World.cell?_alloc_at _ _ _ _ rfl
  have t1 : (w1.alloc (.cells #[.int .i64 1, .string tx] 199)).cell? ⟨w1.heap.size, 1, none⟩ = some (.string tx) := World.cell?_alloc_at _ _ _ _ rfl
  clear q2 hE1 HOne HB0
  go_wp2_with fail
  go_ret
  exact ⟨_, rfl, BelowM.of_below HB2.out (by omega), .inl ⟨4, HPl.out, rfl⟩⟩

set_option maxHeartbeats 8000000 in
theorem line_kind (l : Toks) (ta : Option Addr) (tcap base M n1 : Nat) (mo : Mo) (vu vt vf : Value) (W : World) (h : ModAt base M n1 mo vu vt vf W) (ht : TokRow W (.slice ta l.length tcap) l) (h2 : l.length ≤ 200) (h3 : ∀ t ∈ l, faultOf t = 0) (h0 : 0 < l.length) (hk : l[0].1 ≠ 1) : Calls Tryz.prog 75 #[.pointer (some ⟨M, 0, none⟩), .slice ta l.length tcap] W fun r w' => ∃ x, r = .returned (.int .i64 x) ∧ LineR base M mo W (pLine l) x w' := by
  have HPl : Hid (pLine l = .error 4) := by
    have hw0 : ∀ s, wrd l 0 s = false := fun s => by rw [wrd, tokB_of h0, beq_eq_false_iff_ne.2 hk]; rfl
    show _ = _
    unfold pLine
    rw [if_neg (by omega), hw0, hw0, hw0, if_neg (by simp), if_neg (by simp), if_neg (by simp)]
  have hE0 := eye_new ht h2 h3
  have HB0 : Hid (Below W.heap.size W (W.alloc (.cells #[.slice ta l.length tcap, .int .i64 0, .int .i64 0, .int .i64 0] 204))) := (Below.refl _ _).alloc (Nat.le_refl _) _
  have HOne := veil (one_some W.heap.size l 0 0 _ hE0 h0)
  have hk' : (l[0].1 != 1) = true := bne_iff_ne.2 hk
  have hbn := h.hb
  have hnW := h.hn
  have hl0 : ((l.length : Int) == 0) = false := by rw [beq_eq_false_iff_ne]; omega
  clear hE0 h ht h3 hk
  generalize l[0].1 = kd at *
  generalize l[0].2 = tx at *
  go_enter Tryz.func75, Tryz.ntmps75
  go_wp2_with fail
  refine HOne.out.mono ?_
  rintro r w1 ⟨rfl, hE1, q2⟩
  have HB1 : Hid (Below W.heap.size W w1) := HB0.out.trans q2.below
  have hs1 := q2.below.size
  have t0 : (w1.alloc (.cells #[.int .i64 kd, .string tx] 199)).cell? ⟨w1.heap.size, 0, none⟩ = some (.int .i64 kd) := World.cell?_alloc_at _ _ _ _ rfl
  have HB2 : Hid (Below W.heap.size W (w1.alloc (.cells #[.int .i64 kd, .string tx] 199))) := HB1.out.alloc HB1.out.size _
  clear q2 hE1 HOne HB0
  go_wp2_with fail
  go_ret
  exact ⟨_, rfl, BelowM.of_below HB2.out (by omega), .inl ⟨4, HPl.out, rfl⟩⟩

/-- a line of tokens is read as the plain reading says. -/
theorem line_eye (l : Toks) (v : Value) (base M n1 : Nat) (mo : Mo) (vu vt vf : Value) (W : World) (h : ModAt base M n1 mo vu vt vf W) (ht : TokRow W v l) (h2 : l.length ≤ 200) (h3 : ∀ t ∈ l, faultOf t = 0) (hu : mo.uses.length ≤ 2000) (hty : mo.types.length ≤ 2000) (hf : mo.funcs.length ≤ 2000) :
    Calls Tryz.prog 75 #[.pointer (some ⟨M, 0, none⟩), v] W fun r w' => ∃ x, r = .returned (.int .i64 x) ∧ LineR base M mo W (pLine l) x w' := by
  obtain ⟨ta, tcap, rfl⟩ : ∃ ta tcap, v = .slice ta l.length tcap := by
    rcases ht with ⟨rfl, a, cap, rfl⟩ | ⟨b, off, cap, rfl, _⟩
    · exact ⟨a, cap, rfl⟩
    · exact ⟨_, cap, rfl⟩
  by_cases h0 : 0 < l.length
  · by_cases hk : l[0].1 = 1
    · cases hx1 : (l[0].2.toList == [117, 115, 101]) with
      | true => exact line_use l ta tcap base M n1 mo vu vt vf W h ht h2 h3 hu hty hf h0 _ hk rfl hx1
      | false =>
        cases hx2 : (l[0].2.toList == [116, 121, 112, 101]) with
        | true => exact line_type l ta tcap base M n1 mo vu vt vf W h ht h2 h3 hu hty hf h0 _ hk rfl hx1 hx2
        | false =>
          cases hx3 : (l[0].2.toList == [102, 117, 110, 99]) with
          | true => exact line_fun l ta tcap base M n1 mo vu vt vf W h ht h2 h3 hu hty hf h0 _ hk rfl hx1 hx2 hx3
          | false => exact line_other l ta tcap base M n1 mo vu vt vf W h ht h2 h3 h0 _ hk rfl hx1 hx2 hx3
    · exact line_kind l ta tcap base M n1 mo vu vt vf W h ht h2 h3 h0 hk
  · have hl : l = [] := List.length_eq_zero_iff.1 (by omega)
    subst hl
    have HR : Hid (LineR base M mo W (pLine []) 0 W) := ⟨⟨rfl, rfl, rfl, Nat.le_refl _, fun _ _ _ => rfl⟩, .inr ⟨.none, rfl, rfl, n1, vu, vt, vf, h⟩⟩
    clear h ht
    go_enter Tryz.func75, Tryz.ntmps75
    go_wp2_with fail
    go_ret
    exact ⟨_, rfl, HR.out⟩

end Go.Proofs.YtagbaimfigljiaaGreatDoor
