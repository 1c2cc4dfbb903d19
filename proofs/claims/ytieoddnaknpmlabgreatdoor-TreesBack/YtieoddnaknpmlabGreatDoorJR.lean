/- scullerykeep.Module: a use is laid behind the uses. -/
import Derived.Test.YtieoddnaknpmlabGreatDoorJQ
namespace Go.Proofs.YtieoddnaknpmlabGreatDoor
open Go.RowKit
set_option maxRecDepth 100000

def opsUse : Array Oper := #[{ dst := some 110, op := Op.fieldAddr 26 (Operand.tmp 3) 0, type := 0, pos := "raw.go:94", after := #[], guard := none }, { dst := some 111, op := Op.load 22 (Operand.tmp 110), type := 22, pos := "raw.go:94", after := #[{ on := 0, ground := Ground.data }], guard := none }, { dst := some 112, op := Op.fieldAddr 58 (Operand.tmp 5) 1, type := 0, pos := "raw.go:94", after := #[], guard := none }, { dst := some 113, op := Op.load 3 (Operand.tmp 112), type := 3, pos := "raw.go:94", after := #[{ on := 2, ground := Ground.data }], guard := none }, { dst := some 114, op := Op.call { callee := Callee.value (Operand.func 21), args := #[Operand.tmp 113], argTypes := #[3] }, type := 9, pos := "raw.go:94", after := #[{ on := 3, ground := Ground.data }], guard := none }, { dst := some 115, op := Op.buildSlice 22 1 #[(0, Operand.tmp 114)], type := 22, pos := "raw.go:94", after := #[{ on := 4, ground := Ground.data }], guard := none }, { dst := some 116, op := Op.call { callee := Callee.builtin Builtin.append, args := #[Operand.tmp 111, Operand.tmp 115], argTypes := #[22, 22] }, type := 22, pos := "raw.go:94", after := #[{ on := 1, ground := Ground.data }, { on := 5, ground := Ground.data }, { on := 4, ground := Ground.chain }], guard := none }, { dst := some 117, op := Op.fieldAddr 26 (Operand.tmp 3) 0, type := 0, pos := "raw.go:94", after := #[{ on := 0, ground := Ground.phase }, { on := 1, ground := Ground.phase }, { on := 2, ground := Ground.phase }, { on := 3, ground := Ground.phase }, { on := 4, ground := Ground.phase }, { on := 5, ground := Ground.phase }, { on := 6, ground := Ground.phase }], guard := none }, { dst := none, op := Op.store 22 (Operand.tmp 117) (Operand.tmp 116), type := 0, pos := "raw.go:94", after := #[{ on := 7, ground := Ground.data }, { on := 6, ground := Ground.data }, { on := 6, ground := Ground.chain }, { on := 0, ground := Ground.phase }, { on := 1, ground := Ground.phase }, { on := 2, ground := Ground.phase }, { on := 3, ground := Ground.phase }, { on := 4, ground := Ground.phase }, { on := 5, ground := Ground.phase }, { on := 6, ground := Ground.phase }], guard := none }]

set_option maxHeartbeats 2000000 in
theorem use_region (t0 t1 t2 t4 t6 t7 t8 t9 t10 t11 t12 t13 t14 t15 t16 t17 t18 t19 t20 t21 t22 t23 t24 t25 t26 t27 t28 t29 t30 t31 t32 t33 t34 t35 t36 t37 t38 t39 t40 t41 t42 t43 t44 t45 t46 t47 t48 t49 t50 t51 t52 t53 t54 t55 t56 t57 t58 t59 t60 t61 t62 t63 t64 t65 t66 t67 t68 t69 t70 t71 t72 t73 t74 t75 t76 t77 t78 t79 t80 t81 t82 t83 t84 t85 t86 t87 t88 t89 t90 t91 t92 t93 t94 t95 t96 t97 t98 t99 t100 t101 t102 t103 t104 t105 t106 t107 t108 t109 t110 t111 t112 t113 t114 t115 t116 t117 t118 t119 t120 t121 t122 t123 t124 t125 t126 t127 t128 t129 t130 t131 t132 : Value) (M R base n1 : Nat) (ra : Int) (hra : wfI ra) (mo : Mo) (vu vt vf : Value) (W : World) (hm : ModAt base M n1 mo vu vt vf W) (hnm : NamesIn W) (hR : W.cell? ⟨R, 1, none⟩ = some (.int .i64 ra)) (hR1 : n1 ≤ R) (hRW : R < W.heap.size) (hlen : mo.uses.length ≤ 9) :
    Code.wp Tryz.prog (Code.region 25 opsUse true) (Normal fun a w => ∃ v110 v111 v112 v113 v114 v115 v116 v117, a = { tmps := #[t0, t1, t2, (.pointer (some ⟨M, 0, none⟩)), t4, (.pointer (some ⟨R, 0, none⟩)), t6, t7, t8, t9, t10, t11, t12, t13, t14, t15, t16, t17, t18, t19, t20, t21, t22, t23, t24, t25, t26, t27, t28, t29, t30, t31, t32, t33, t34, t35, t36, t37, t38, t39, t40, t41, t42, t43, t44, t45, t46, t47, t48, t49, t50, t51, t52, t53, t54, t55, t56, t57, t58, t59, t60, t61, t62, t63, t64, t65, t66, t67, t68, t69, t70, t71, t72, t73, t74, t75, t76, t77, t78, t79, t80, t81, t82, t83, t84, t85, t86, t87, t88, t89, t90, t91, t92, t93, t94, t95, t96, t97, t98, t99, t100, t101, t102, t103, t104, t105, t106, t107, t108, t109, v110, v111, v112, v113, v114, v115, v116, v117, t118, t119, t120, t121, t122, t123, t124, t125, t126, t127, t128, t129, t130, t131, t132], defers := [] } ∧ ∃ (s : ByteArray) (v' : Value), (identOk s = true ∧ s.size ≤ 8) ∧ ModAt base M w.heap.size { mo with uses := mo.uses ++ [s] } v' vt vf w ∧ Below M W w) { tmps := #[t0, t1, t2, (.pointer (some ⟨M, 0, none⟩)), t4, (.pointer (some ⟨R, 0, none⟩)), t6, t7, t8, t9, t10, t11, t12, t13, t14, t15, t16, t17, t18, t19, t20, t21, t22, t23, t24, t25, t26, t27, t28, t29, t30, t31, t32, t33, t34, t35, t36, t37, t38, t39, t40, t41, t42, t43, t44, t45, t46, t47, t48, t49, t50, t51, t52, t53, t54, t55, t56, t57, t58, t59, t60, t61, t62, t63, t64, t65, t66, t67, t68, t69, t70, t71, t72, t73, t74, t75, t76, t77, t78, t79, t80, t81, t82, t83, t84, t85, t86, t87, t88, t89, t90, t91, t92, t93, t94, t95, t96, t97, t98, t99, t100, t101, t102, t103, t104, t105, t106, t107, t108, t109, t110, t111, t112, t113, t114, t115, t116, t117, t118, t119, t120, t121, t122, t123, t124, t125, t126, t127, t128, t129, t130, t131, t132], defers := [] } W := by
  have hM := hm.hM
  have hb := hm.hb
  have hn := hm.hn
  have hMW : M < W.heap.size := by omega
  have hc0 : W.drew.cell? ⟨M, 0, none⟩ = some vu := by
    show W.cell? _ = _
    rw [cell_of_row _ _ _ _ _ _ hm.mod]; rfl
  have hS0 : W.drew.cell? ⟨R, 1, none⟩ = some (.int .i64 ra) := hR
  have HS1 : Hid (∀ s, (W.alloc (.cells #[.string s] 9)).drew.cell? ⟨R, 1, none⟩ = some (.int .i64 ra)) := fun s => by
    show (W.alloc _).cell? _ = _
    rw [World.cell?_alloc_old _ _ _ (by show R ≠ _; omega)]; exact hR
  have HC1 : Hid (∀ s, (W.alloc (.cells #[.string s] 9)).drew.cell? ⟨M, 0, none⟩ = some vu) := fun s => by
    show (W.alloc _).cell? _ = _
    rw [World.cell?_alloc_old _ _ _ (by show M ≠ _; omega)]; exact hc0
  obtain ⟨yu, hu⟩ := hm.us
  have HM := veil hm
  have HU := veil hu
  have HNd : Hid (NamesIn W.drew) := hnm.keep ((Below.refl _ _).drew)
  have HFarM : Hid (some M ≠ vu.ownBlock) := fun h => by have := ownsRow_in hu.own _ h.symm; omega
  have HFarR : Hid (some R ≠ vu.ownBlock) := fun h => by have := hu.old _ h.symm; omega
  obtain ⟨i0, hi0, hz0, hz1, hz2⟩ := info_parts st_info
  have HI0 := veil hi0
  have HZ0 := veil hz0
  have HZ1 := veil hz1
  have HZ2 := veil hz2
  clear hm hu hi0 hz0 hz1 hz2 hnm hR
  unfold opsUse
  refine wp_region_held_drew (S := fun w' => w'.cell? ⟨R, 1, none⟩ = some (.int .i64 ra)) (by kernel_rfl) hS0 (fun hHeld => ?_)
  clear hHeld
  refine any_take 0 rfl rfl (by kernel_rfl) (by kernel_rfl) (by kernel_rfl) (fun _ _ _ h => h) (v := .pointer (some ⟨M, 0, none⟩)) (Or.inl ⟨by rfl, fun w hw => by go_simp⟩) hS0 ?_
  refine any_take 2 rfl rfl (by kernel_rfl) (by kernel_rfl) (by kernel_rfl) (fun _ _ _ h => h) (v := .pointer (some ⟨R, 1, none⟩)) (Or.inl ⟨by rfl, fun w hw => by go_simp⟩) hS0 ?_
  refine any_take 3 rfl rfl (by kernel_rfl) (by kernel_rfl) (by kernel_rfl) (fun _ _ _ h => h) (v := .int .i64 ra) (Or.inl ⟨by rfl, fun w hw => by have hw2 : w.cell? ⟨R, 1, none⟩ = some (.int .i64 ra) := hw; go_simp⟩) hS0 ?_
  refine any_two 1 4 (by kernel_rfl) rfl rfl rfl rfl (fun K hK => ?_) (fun K hK => ?_)
  · have HK := veil hK
    clear hK
    go_simp
    refine HK.out _ _ hS0 ?_
    clear HK K
    refine any_one 4 (by kernel_rfl) rfl rfl (fun K hK => ?_)
    have HK := veil hK
    clear hK
    go_simp
    refine (name_raw _ hra _ HNd.out).mono ?_
    rintro e w3 ⟨s, rfl, hs, hs8, rfl⟩
    have HI := veil hs
    have hS1 := HS1.out s
    have hc1 := HC1.out s
    clear hs
    go_simp
    refine HK.out _ _ hS0 ?_
    clear HK K
    refine any_one 5 (by kernel_rfl) rfl rfl (fun K hK => ?_)
    have HK := veil hK
    clear hK
    go_simp
    refine HK.out _ _ hS1 ?_
    clear HK K
    refine any_one 6 (by kernel_rfl) rfl rfl (fun K hK => ?_)
    have HOld : Hid (∀ k', k' < W.heap.size → (W.alloc (.cells #[.string s] 9)).drew.heap[k']? = W.heap[k']?) := fun k' hk' => heap_alloc_old _ _ hk'
    have HNews : Hid (∀ j u, ([.string s] : List Value)[j]? = some u → (W.alloc (.cells #[.string s] 9)).drew.cell? ((⟨W.heap.size, 0, none⟩ : Addr).add j) = some u) :=
      World.news_of_block (cs := #[.string s]) (t := 9) (fr := (0, 0)) (heap_alloc_new W _)
    have HOne : Hid (∀ u ∈ ([.string s] : List Value), u.oneCell' = true) := by intro u hu; simp at hu; subst hu; rfl
    have HHs : Hid ((W.alloc (.cells #[.string s] 9)).drew.heap.size = W.heap.size + 1) := by show (W.alloc _).heap.size = _; simp
    refine wp_append_lies _ _ _ _ rfl base 9 i0 _ 1 16 Tryz.underlying22 HI0.out HZ0.out HZ1.out HZ2.out rfl (by omega) vu mo.uses.length yu rfl ((HU.out.own.alloc _).drew) ⟨W.heap.size, 0, none⟩ 1 1 [.string s] rfl rfl HNews.out HOne.out (by omega) (by unfold maxLen; omega) (by omega) (by rw [HHs.out]; omega) _ HHs.out (fun g cap w1 hown1 hgrow hat1 hlt => ?_)
    have hg := grewM_store (o := 0) (W := W) (W0 := (W.alloc (.cells #[.string s] 9)).drew) hM (by omega) (by rw [HHs.out]; omega) rfl rfl rfl HOld.out hgrow HM.out.mod HFarM.out hown1 (hat1.imp_right (fun h => by omega))
    have HP := veil (HM.out.pushU HU.out hg (by unfold maxLen; omega))
    have HBl := veil (hg.below HU.out.own hM (by omega))
    have hb1 : w1.heap[M]? = some (.cells #[vu, vt, vf] 26 (0, 0)) := (hgrow.block M (by rw [HHs.out]; omega) HFarM.out).trans ((HOld.out M hMW).trans HM.out.mod)
    have hcM : w1.cell? ⟨M, 0, none⟩ = some vu := by rw [cell_of_row w1 M 0 _ _ _ hb1]; rfl
    have hfM : w1.frozen? ⟨M, 0, none⟩ = false := Lib.frozen_of_heap hb1 0
    have hS2 : w1.cell? ⟨R, 1, none⟩ = some (.int .i64 ra) := (hgrow.cell_far ⟨R, 1, none⟩ (by rw [HHs.out]; show R < _; omega) HFarR.out).trans hS1
    refine hK _ _ hS2 ?_
    clear hK K hgrow hown1 hg hb1 hS1 hc1 HNews HOne
    refine any_take 7 rfl rfl (by kernel_rfl) (by kernel_rfl) (by kernel_rfl) (fun _ _ _ h => h) (v := .pointer (some ⟨M, 0, none⟩)) (Or.inl ⟨by rfl, fun w hw => by go_simp⟩) hS2 ?_
    refine any_one 8 (by kernel_rfl) rfl rfl (fun K hK => ?_)
    have HK := veil hK
    clear hK
    go_simp
    refine HK.out _ _ ?_ (wpAnyH_done (by kernel_rfl) ⟨_, _, _, _, _, _, _, _, rfl, s, _, ⟨HI.out, hs8⟩, HP.out, HBl.out⟩ _)
    show World.cell? _ _ = _
    rw [World.cell?_setCell_other _ _ _ _ (by intro h; injection h with h _ _; omega)]
    exact hS2
  · have HK := veil hK
    clear hK
    go_simp
    refine (name_raw _ hra _ HNd.out).mono ?_
    rintro e w3 ⟨s, rfl, hs, hs8, rfl⟩
    have HI := veil hs
    have hS1 := HS1.out s
    have hc1 := HC1.out s
    clear hs
    go_simp
    refine HK.out _ _ hS0 ?_
    clear HK K
    refine any_two 1 5 (by kernel_rfl) rfl rfl rfl rfl (fun K hK => ?_) (fun K hK => ?_)
    · have HK := veil hK
      clear hK
      go_simp
      refine HK.out _ _ hS0 ?_
      clear HK K
      refine any_one 5 (by kernel_rfl) rfl rfl (fun K hK => ?_)
      have HK := veil hK
      clear hK
      go_simp
      refine HK.out _ _ hS1 ?_
      clear HK K
      refine any_one 6 (by kernel_rfl) rfl rfl (fun K hK => ?_)
      have HOld : Hid (∀ k', k' < W.heap.size → (W.alloc (.cells #[.string s] 9)).drew.heap[k']? = W.heap[k']?) := fun k' hk' => heap_alloc_old _ _ hk'
      have HNews : Hid (∀ j u, ([.string s] : List Value)[j]? = some u → (W.alloc (.cells #[.string s] 9)).drew.cell? ((⟨W.heap.size, 0, none⟩ : Addr).add j) = some u) :=
        World.news_of_block (cs := #[.string s]) (t := 9) (fr := (0, 0)) (heap_alloc_new W _)
      have HOne : Hid (∀ u ∈ ([.string s] : List Value), u.oneCell' = true) := by intro u hu; simp at hu; subst hu; rfl
      have HHs : Hid ((W.alloc (.cells #[.string s] 9)).drew.heap.size = W.heap.size + 1) := by show (W.alloc _).heap.size = _; simp
      refine wp_append_lies _ _ _ _ rfl base 9 i0 _ 1 16 Tryz.underlying22 HI0.out HZ0.out HZ1.out HZ2.out rfl (by omega) vu mo.uses.length yu rfl ((HU.out.own.alloc _).drew) ⟨W.heap.size, 0, none⟩ 1 1 [.string s] rfl rfl HNews.out HOne.out (by omega) (by unfold maxLen; omega) (by omega) (by rw [HHs.out]; omega) _ HHs.out (fun g cap w1 hown1 hgrow hat1 hlt => ?_)
      have hg := grewM_store (o := 0) (W := W) (W0 := (W.alloc (.cells #[.string s] 9)).drew) hM (by omega) (by rw [HHs.out]; omega) rfl rfl rfl HOld.out hgrow HM.out.mod HFarM.out hown1 (hat1.imp_right (fun h => by omega))
      have HP := veil (HM.out.pushU HU.out hg (by unfold maxLen; omega))
      have HBl := veil (hg.below HU.out.own hM (by omega))
      have hb1 : w1.heap[M]? = some (.cells #[vu, vt, vf] 26 (0, 0)) := (hgrow.block M (by rw [HHs.out]; omega) HFarM.out).trans ((HOld.out M hMW).trans HM.out.mod)
      have hcM : w1.cell? ⟨M, 0, none⟩ = some vu := by rw [cell_of_row w1 M 0 _ _ _ hb1]; rfl
      have hfM : w1.frozen? ⟨M, 0, none⟩ = false := Lib.frozen_of_heap hb1 0
      have hS2 : w1.cell? ⟨R, 1, none⟩ = some (.int .i64 ra) := (hgrow.cell_far ⟨R, 1, none⟩ (by rw [HHs.out]; show R < _; omega) HFarR.out).trans hS1
      refine hK _ _ hS2 ?_
      clear hK K hgrow hown1 hg hb1 hS1 hc1 HNews HOne
      refine any_take 7 rfl rfl (by kernel_rfl) (by kernel_rfl) (by kernel_rfl) (fun _ _ _ h => h) (v := .pointer (some ⟨M, 0, none⟩)) (Or.inl ⟨by rfl, fun w hw => by go_simp⟩) hS2 ?_
      refine any_one 8 (by kernel_rfl) rfl rfl (fun K hK => ?_)
      have HK := veil hK
      clear hK
      go_simp
      refine HK.out _ _ ?_ (wpAnyH_done (by kernel_rfl) ⟨_, _, _, _, _, _, _, _, rfl, s, _, ⟨HI.out, hs8⟩, HP.out, HBl.out⟩ _)
      show World.cell? _ _ = _
      rw [World.cell?_setCell_other _ _ _ _ (by intro h; injection h with h _ _; omega)]
      exact hS2
    · have HK := veil hK
      clear hK
      go_simp
      refine HK.out _ _ hS1 ?_
      clear HK K
      refine any_one 1 (by kernel_rfl) rfl rfl (fun K hK => ?_)
      have HK := veil hK
      clear hK
      go_simp
      refine HK.out _ _ hS1 ?_
      clear HK K
      refine any_one 6 (by kernel_rfl) rfl rfl (fun K hK => ?_)
      have HOld : Hid (∀ k', k' < W.heap.size → (W.alloc (.cells #[.string s] 9)).drew.heap[k']? = W.heap[k']?) := fun k' hk' => heap_alloc_old _ _ hk'
      have HNews : Hid (∀ j u, ([.string s] : List Value)[j]? = some u → (W.alloc (.cells #[.string s] 9)).drew.cell? ((⟨W.heap.size, 0, none⟩ : Addr).add j) = some u) :=
        World.news_of_block (cs := #[.string s]) (t := 9) (fr := (0, 0)) (heap_alloc_new W _)
      have HOne : Hid (∀ u ∈ ([.string s] : List Value), u.oneCell' = true) := by intro u hu; simp at hu; subst hu; rfl
      have HHs : Hid ((W.alloc (.cells #[.string s] 9)).drew.heap.size = W.heap.size + 1) := by show (W.alloc _).heap.size = _; simp
      refine wp_append_lies _ _ _ _ rfl base 9 i0 _ 1 16 Tryz.underlying22 HI0.out HZ0.out HZ1.out HZ2.out rfl (by omega) vu mo.uses.length yu rfl ((HU.out.own.alloc _).drew) ⟨W.heap.size, 0, none⟩ 1 1 [.string s] rfl rfl HNews.out HOne.out (by omega) (by unfold maxLen; omega) (by omega) (by rw [HHs.out]; omega) _ HHs.out (fun g cap w1 hown1 hgrow hat1 hlt => ?_)
      have hg := grewM_store (o := 0) (W := W) (W0 := (W.alloc (.cells #[.string s] 9)).drew) hM (by omega) (by rw [HHs.out]; omega) rfl rfl rfl HOld.out hgrow HM.out.mod HFarM.out hown1 (hat1.imp_right (fun h => by omega))
      have HP := veil (HM.out.pushU HU.out hg (by unfold maxLen; omega))
      have HBl := veil (hg.below HU.out.own hM (by omega))
      have hb1 : w1.heap[M]? = some (.cells #[vu, vt, vf] 26 (0, 0)) := (hgrow.block M (by rw [HHs.out]; omega) HFarM.out).trans ((HOld.out M hMW).trans HM.out.mod)
      have hcM : w1.cell? ⟨M, 0, none⟩ = some vu := by rw [cell_of_row w1 M 0 _ _ _ hb1]; rfl
      have hfM : w1.frozen? ⟨M, 0, none⟩ = false := Lib.frozen_of_heap hb1 0
      have hS2 : w1.cell? ⟨R, 1, none⟩ = some (.int .i64 ra) := (hgrow.cell_far ⟨R, 1, none⟩ (by rw [HHs.out]; show R < _; omega) HFarR.out).trans hS1
      refine hK _ _ hS2 ?_
      clear hK K hgrow hown1 hg hb1 hS1 hc1 HNews HOne
      refine any_take 7 rfl rfl (by kernel_rfl) (by kernel_rfl) (by kernel_rfl) (fun _ _ _ h => h) (v := .pointer (some ⟨M, 0, none⟩)) (Or.inl ⟨by rfl, fun w hw => by go_simp⟩) hS2 ?_
      refine any_one 8 (by kernel_rfl) rfl rfl (fun K hK => ?_)
      have HK := veil hK
      clear hK
      go_simp
      refine HK.out _ _ ?_ (wpAnyH_done (by kernel_rfl) ⟨_, _, _, _, _, _, _, _, rfl, s, _, ⟨HI.out, hs8⟩, HP.out, HBl.out⟩ _)
      show World.cell? _ _ = _
      rw [World.cell?_setCell_other _ _ _ _ (by intro h; injection h with h _ _; omega)]
      exact hS2

end Go.Proofs.YtieoddnaknpmlabGreatDoor

/- scullerykeep.Module: a type is laid behind the types. -/
namespace Go.Proofs.YtieoddnaknpmlabGreatDoor
open Go.RowKit
set_option maxRecDepth 100000

def opsTyp : Array Oper := #[{ dst := some 121, op := Op.fieldAddr 26 (Operand.tmp 3) 1, type := 0, pos := "raw.go:96", after := #[], guard := none }, { dst := some 122, op := Op.load 23 (Operand.tmp 121), type := 23, pos := "raw.go:96", after := #[{ on := 0, ground := Ground.data }], guard := none }, { dst := some 123, op := Op.fieldAddr 58 (Operand.tmp 5) 1, type := 0, pos := "raw.go:96", after := #[], guard := none }, { dst := some 124, op := Op.load 3 (Operand.tmp 123), type := 3, pos := "raw.go:96", after := #[{ on := 2, ground := Ground.data }], guard := none }, { dst := some 125, op := Op.call { callee := Callee.value (Operand.func 21), args := #[Operand.tmp 124], argTypes := #[3] }, type := 9, pos := "raw.go:96", after := #[{ on := 3, ground := Ground.data }], guard := none }, { dst := some 126, op := Op.move (Operand.tmp 6), type := 32, pos := "raw.go:96", after := #[], guard := none }, { dst := some 127, op := Op.call { callee := Callee.value (Operand.func 22), args := #[Operand.tmp 126, Operand.const (Value.int IntKind.i64 1)], argTypes := #[32, 3] }, type := 49, pos := "raw.go:96", after := #[{ on := 5, ground := Ground.data }, { on := 4, ground := Ground.chain }], guard := none }, { dst := some 128, op := Op.build 63 #[(0, Operand.tmp 125), (1, Operand.tmp 127)], type := 63, pos := "raw.go:96", after := #[{ on := 4, ground := Ground.data }, { on := 6, ground := Ground.data }], guard := none }, { dst := some 129, op := Op.buildSlice 23 1 #[(0, Operand.tmp 128)], type := 23, pos := "raw.go:96", after := #[{ on := 7, ground := Ground.data }], guard := none }, { dst := some 130, op := Op.call { callee := Callee.builtin Builtin.append, args := #[Operand.tmp 122, Operand.tmp 129], argTypes := #[23, 23] }, type := 23, pos := "raw.go:96", after := #[{ on := 1, ground := Ground.data }, { on := 8, ground := Ground.data }, { on := 6, ground := Ground.chain }], guard := none }, { dst := some 131, op := Op.fieldAddr 26 (Operand.tmp 3) 1, type := 0, pos := "raw.go:96", after := #[{ on := 0, ground := Ground.phase }, { on := 1, ground := Ground.phase }, { on := 2, ground := Ground.phase }, { on := 3, ground := Ground.phase }, { on := 4, ground := Ground.phase }, { on := 5, ground := Ground.phase }, { on := 6, ground := Ground.phase }, { on := 7, ground := Ground.phase }, { on := 8, ground := Ground.phase }, { on := 9, ground := Ground.phase }], guard := none }, { dst := none, op := Op.store 23 (Operand.tmp 131) (Operand.tmp 130), type := 0, pos := "raw.go:96", after := #[{ on := 10, ground := Ground.data }, { on := 9, ground := Ground.data }, { on := 9, ground := Ground.chain }, { on := 0, ground := Ground.phase }, { on := 1, ground := Ground.phase }, { on := 2, ground := Ground.phase }, { on := 3, ground := Ground.phase }, { on := 4, ground := Ground.phase }, { on := 5, ground := Ground.phase }, { on := 6, ground := Ground.phase }, { on := 7, ground := Ground.phase }, { on := 8, ground := Ground.phase }, { on := 9, ground := Ground.phase }], guard := none }]

set_option maxHeartbeats 2000000 in
theorem type_region (t0 t1 t2 t4 t7 t8 t9 t10 t11 t12 t13 t14 t15 t16 t17 t18 t19 t20 t21 t22 t23 t24 t25 t26 t27 t28 t29 t30 t31 t32 t33 t34 t35 t36 t37 t38 t39 t40 t41 t42 t43 t44 t45 t46 t47 t48 t49 t50 t51 t52 t53 t54 t55 t56 t57 t58 t59 t60 t61 t62 t63 t64 t65 t66 t67 t68 t69 t70 t71 t72 t73 t74 t75 t76 t77 t78 t79 t80 t81 t82 t83 t84 t85 t86 t87 t88 t89 t90 t91 t92 t93 t94 t95 t96 t97 t98 t99 t100 t101 t102 t103 t104 t105 t106 t107 t108 t109 t110 t111 t112 t113 t114 t115 t116 t117 t118 t119 t120 t121 t122 t123 t124 t125 t126 t127 t128 t129 t130 t131 t132 : Value) (M R base n1 : Nat) (pa : Option Addr) (pn pc : Nat) (ra : Int) (hra : wfI ra) (mo : Mo) (vu vt vf : Value) (W : World) (hm : ModAt base M n1 mo vu vt vf W) (hnm : NamesIn W) (hR : W.cell? ⟨R, 1, none⟩ = some (.int .i64 ra)) (hR1 : n1 ≤ R) (hRW : R < W.heap.size) (hlen : mo.types.length ≤ 9)
    (hty : ∀ W', Below W.heap.size W W' → Calls Tryz.prog 22 #[.slice pa pn pc, .int .i64 1] W' fun e w' => TypeMade W'.heap.size 1 e w' ∧ Below W'.heap.size W' w') :
    Code.wp Tryz.prog (Code.region 27 opsTyp true) (Normal fun a w => ∃ v121 v122 v123 v124 v125 v126 v127 v128 v129 v130 v131, a = { tmps := #[t0, t1, t2, (.pointer (some ⟨M, 0, none⟩)), t4, (.pointer (some ⟨R, 0, none⟩)), (.slice pa pn pc), t7, t8, t9, t10, t11, t12, t13, t14, t15, t16, t17, t18, t19, t20, t21, t22, t23, t24, t25, t26, t27, t28, t29, t30, t31, t32, t33, t34, t35, t36, t37, t38, t39, t40, t41, t42, t43, t44, t45, t46, t47, t48, t49, t50, t51, t52, t53, t54, t55, t56, t57, t58, t59, t60, t61, t62, t63, t64, t65, t66, t67, t68, t69, t70, t71, t72, t73, t74, t75, t76, t77, t78, t79, t80, t81, t82, t83, t84, t85, t86, t87, t88, t89, t90, t91, t92, t93, t94, t95, t96, t97, t98, t99, t100, t101, t102, t103, t104, t105, t106, t107, t108, t109, t110, t111, t112, t113, t114, t115, t116, t117, t118, t119, t120, v121, v122, v123, v124, v125, v126, v127, v128, v129, v130, v131, t132], defers := [] } ∧ ∃ (x : Fd) (v' : Value), fdFault x = 0 ∧ ModAt base M w.heap.size { mo with types := mo.types ++ [x] } vu v' vf w ∧ Below M W w) { tmps := #[t0, t1, t2, (.pointer (some ⟨M, 0, none⟩)), t4, (.pointer (some ⟨R, 0, none⟩)), (.slice pa pn pc), t7, t8, t9, t10, t11, t12, t13, t14, t15, t16, t17, t18, t19, t20, t21, t22, t23, t24, t25, t26, t27, t28, t29, t30, t31, t32, t33, t34, t35, t36, t37, t38, t39, t40, t41, t42, t43, t44, t45, t46, t47, t48, t49, t50, t51, t52, t53, t54, t55, t56, t57, t58, t59, t60, t61, t62, t63, t64, t65, t66, t67, t68, t69, t70, t71, t72, t73, t74, t75, t76, t77, t78, t79, t80, t81, t82, t83, t84, t85, t86, t87, t88, t89, t90, t91, t92, t93, t94, t95, t96, t97, t98, t99, t100, t101, t102, t103, t104, t105, t106, t107, t108, t109, t110, t111, t112, t113, t114, t115, t116, t117, t118, t119, t120, t121, t122, t123, t124, t125, t126, t127, t128, t129, t130, t131, t132], defers := [] } W := by
  have hM := hm.hM
  have hb := hm.hb
  have hn := hm.hn
  have hMW : M < W.heap.size := by omega
  have hc0 : W.drew.cell? ⟨M, 1, none⟩ = some vt := by
    show W.cell? _ = _
    rw [cell_of_row _ _ _ _ _ _ hm.mod]; rfl
  have hS0 : W.drew.cell? ⟨R, 1, none⟩ = some (.int .i64 ra) := hR
  have HM := veil hm
  have HTy := veil (hty W.drew ((Below.refl _ _).drew))
  have HNd : Hid (NamesIn W.drew) := hnm.keep ((Below.refl _ _).drew)
  have HBd : Hid (Below W.heap.size W W.drew) := (Below.refl _ _).drew
  obtain ⟨i0, hi0, hz0, hz1, hz2⟩ := info_parts fd_info
  have HI0 := veil hi0
  have HZ0 := veil hz0
  have HZ1 := veil hz1
  have HZ2 := veil hz2
  clear hm hi0 hz0 hz1 hz2 hnm hR hty
  unfold opsTyp
  refine wp_region_held_drew (S := fun w' => w'.cell? ⟨R, 1, none⟩ = some (.int .i64 ra)) (by kernel_rfl) hS0 (fun hHeld => ?_)
  clear hHeld
  refine any_take 0 rfl rfl (by kernel_rfl) (by kernel_rfl) (by kernel_rfl) (fun _ _ _ h => h) (v := .pointer (some ⟨M, 1, none⟩)) (Or.inl ⟨by rfl, fun w hw => by go_simp⟩) hS0 ?_
  refine any_take 2 rfl rfl (by kernel_rfl) (by kernel_rfl) (by kernel_rfl) (fun _ _ _ h => h) (v := .pointer (some ⟨R, 1, none⟩)) (Or.inl ⟨by rfl, fun w hw => by go_simp⟩) hS0 ?_
  refine any_take 3 rfl rfl (by kernel_rfl) (by kernel_rfl) (by kernel_rfl) (fun _ _ _ h => h) (v := .int .i64 ra) (Or.inl ⟨by rfl, fun w hw => by have hw2 : w.cell? ⟨R, 1, none⟩ = some (.int .i64 ra) := hw; go_simp⟩) hS0 ?_
  refine any_take 5 rfl rfl (by kernel_rfl) (by kernel_rfl) (by kernel_rfl) (fun _ _ _ h => h) (v := .slice pa pn pc) (Or.inl ⟨by rfl, fun w hw => by go_simp⟩) hS0 ?_
  refine any_two 1 4 (by kernel_rfl) rfl rfl rfl rfl (fun K hK => ?_) (fun K hK => ?_)
  · have HK := veil hK
    clear hK
    go_simp
    refine HK.out _ _ hS0 ?_
    clear HK K
    refine any_one 4 (by kernel_rfl) rfl rfl (fun K hK => ?_)
    have HK := veil hK
    clear hK
    go_simp
    refine (name_raw _ hra _ HNd.out).mono ?_
    rintro e w3 ⟨s, rfl, hs, hs8, rfl⟩
    have HI := veil hs
    clear hs
    go_simp
    refine HK.out _ _ hS0 ?_
    clear HK K
    refine any_one 6 (by kernel_rfl) rfl rfl (fun K hK => ?_)
    have HK := veil hK
    clear hK
    go_simp
    refine HTy.out.mono ?_
    rintro e w3 ⟨⟨t, k1, f1, x1, b1, m1, c1, rfl, hcs, hft⟩, hb3⟩
    have hb13 : Below W.heap.size W w3 := HBd.out.trans (hb3.mono HBd.out.size)
    have HFd : Hid (FdC (Fresh n1 w3) w3 ⟨s, t⟩ [.string s, .int .i64 k1, .string f1, .string x1, .slice b1 m1 c1]) := ⟨k1, f1, x1, b1, m1, c1, rfl, by unfold maxLen; show s.size ≤ _; omega, hcs.keep ⟨fun _ _ => rfl, fun b hb' => ⟨Nat.le_trans (Nat.le_trans hn HBd.out.size) hb'.1, hb'.2⟩⟩⟩
    have HFt : Hid (fdFault ⟨s, t⟩ = 0) := by unfold Hid fdFault; rw [if_pos HI.out]; exact hft
    have hm3 := HM.out.keep (hb13.mono hn)
    have HM3 := veil hm3
    obtain ⟨yt, ht⟩ := hm3.ts
    have HU := veil ht
    have HB13 := veil hb13
    have hsz3 := hb13.size
    have hS1 : w3.cell? ⟨R, 1, none⟩ = some (.int .i64 ra) := (hb13.cell (p := ⟨R, 1, none⟩) hRW).trans hS0
    have hc1 : w3.cell? ⟨M, 1, none⟩ = some vt := (hb13.cell (p := ⟨M, 1, none⟩) hMW).trans hc0
    have HFarM : Hid (some M ≠ vt.ownBlock) := fun h => by have := ownsRow_in ht.own _ h.symm; omega
    have HFarR : Hid (some R ≠ vt.ownBlock) := fun h => by have := ht.old _ h.symm; omega
    clear hcs hft hb3 hb13 hm3 ht HTy hc0
    go_simp
    refine HK.out _ _ hS1 ?_
    clear HK K
    refine any_take 7 rfl rfl (by kernel_rfl) (by kernel_rfl) (by kernel_rfl) (fun _ _ _ h => h) (v := .agg #[.string s, .int .i64 k1, .string f1, .string x1, .slice b1 m1 c1]) (Or.inl ⟨by rfl, fun w hw => by go_simp⟩) hS1 ?_
    refine any_one 8 (by kernel_rfl) rfl rfl (fun K hK => ?_)
    have HK := veil hK
    clear hK
    go_simp
    have hS2 : (w3.alloc (.cells #[.string s, .int .i64 k1, .string f1, .string x1, .slice b1 m1 c1] 63)).cell? ⟨R, 1, none⟩ = some (.int .i64 ra) := by
      rw [World.cell?_alloc_old _ _ _ (by show R ≠ _; omega)]; exact hS1
    have hc2 : (w3.alloc (.cells #[.string s, .int .i64 k1, .string f1, .string x1, .slice b1 m1 c1] 63)).cell? ⟨M, 1, none⟩ = some vt := by
      rw [World.cell?_alloc_old _ _ _ (by show M ≠ _; omega)]; exact hc1
    refine HK.out _ _ hS2 ?_
    clear HK K
    refine any_one 9 (by kernel_rfl) rfl rfl (fun K hK => ?_)
    have HOld : Hid (∀ k', k' < w3.heap.size → (w3.alloc (.cells #[.string s, .int .i64 k1, .string f1, .string x1, .slice b1 m1 c1] 63)).heap[k']? = w3.heap[k']?) := fun k' hk' => heap_alloc_old _ _ hk'
    have HNews : Hid (∀ j u, ([.string s, .int .i64 k1, .string f1, .string x1, .slice b1 m1 c1] : List Value)[j]? = some u → (w3.alloc (.cells #[.string s, .int .i64 k1, .string f1, .string x1, .slice b1 m1 c1] 63)).cell? ((⟨w3.heap.size, 0, none⟩ : Addr).add j) = some u) :=
      World.news_of_block (cs := #[.string s, .int .i64 k1, .string f1, .string x1, .slice b1 m1 c1]) (t := 63) (fr := (0, 0)) (heap_alloc_new w3 _)
    have HOne : Hid (∀ u ∈ ([.string s, .int .i64 k1, .string f1, .string x1, .slice b1 m1 c1] : List Value), u.oneCell' = true) := by intro u hu; simp at hu; rcases hu with rfl | rfl | rfl | rfl | rfl <;> rfl
    have HHs : Hid ((w3.alloc (.cells #[.string s, .int .i64 k1, .string f1, .string x1, .slice b1 m1 c1] 63)).heap.size = w3.heap.size + 1) := by show (w3.alloc _).heap.size = _; simp
    refine wp_append_lies _ _ _ _ rfl base 63 i0 _ 5 80 Tryz.underlying23 HI0.out HZ0.out HZ1.out HZ2.out rfl (by omega) vt mo.types.length yt rfl (HU.out.own.alloc _) ⟨w3.heap.size, 0, none⟩ 1 1 [.string s, .int .i64 k1, .string f1, .string x1, .slice b1 m1 c1] rfl rfl HNews.out HOne.out (by omega) (by unfold maxLen; omega) (by omega) (by rw [HHs.out]; omega) _ HHs.out (fun g cap w1 hown1 hgrow hat1 hlt => ?_)
    have hg := grewM_store (o := 1) (W := w3) (W0 := w3.alloc (.cells #[.string s, .int .i64 k1, .string f1, .string x1, .slice b1 m1 c1] 63)) hM (by omega) (by rw [HHs.out]; omega) rfl rfl rfl HOld.out hgrow HM3.out.mod HFarM.out hown1 (hat1.imp_right (fun h => by omega))
    have HP := veil (HM3.out.pushT HU.out hg rfl HFd.out)
    have HBl := veil ((HB13.out.mono (by omega : M ≤ W.heap.size)).trans (hg.below HU.out.own hM (by omega)))
    have hb1 : w1.heap[M]? = some (.cells #[vu, vt, vf] 26 (0, 0)) := (hgrow.block M (by rw [HHs.out]; omega) HFarM.out).trans ((HOld.out M (by omega)).trans HM3.out.mod)
    have hcM : w1.cell? ⟨M, 1, none⟩ = some vt := by rw [cell_of_row w1 M 1 _ _ _ hb1]; rfl
    have hfM : w1.frozen? ⟨M, 1, none⟩ = false := Lib.frozen_of_heap hb1 1
    have hS3 : w1.cell? ⟨R, 1, none⟩ = some (.int .i64 ra) := (hgrow.cell_far ⟨R, 1, none⟩ (by rw [HHs.out]; show R < _; omega) HFarR.out).trans hS2
    refine hK _ _ hS3 ?_
    clear hK K hgrow hown1 hg hb1 hS1 hc1 hS2 hc2 HNews HOne
    refine any_take 10 rfl rfl (by kernel_rfl) (by kernel_rfl) (by kernel_rfl) (fun _ _ _ h => h) (v := .pointer (some ⟨M, 1, none⟩)) (Or.inl ⟨by rfl, fun w hw => by go_simp⟩) hS3 ?_
    refine any_one 11 (by kernel_rfl) rfl rfl (fun K hK => ?_)
    have HK := veil hK
    clear hK
    go_simp
    refine HK.out _ _ ?_ (wpAnyH_done (by kernel_rfl) ⟨_, _, _, _, _, _, _, _, _, _, _, rfl, ⟨s, t⟩, _, HFt.out, HP.out, HBl.out⟩ _)
    show World.cell? _ _ = _
    rw [World.cell?_setCell_other _ _ _ _ (by intro h; injection h with h _ _; omega)]
    exact hS3
  · have HK := veil hK
    clear hK
    go_simp
    refine (name_raw _ hra _ HNd.out).mono ?_
    rintro e w3 ⟨s, rfl, hs, hs8, rfl⟩
    have HI := veil hs
    clear hs
    go_simp
    refine HK.out _ _ hS0 ?_
    clear HK K
    refine any_two 1 6 (by kernel_rfl) rfl rfl rfl rfl (fun K hK => ?_) (fun K hK => ?_)
    · have HK := veil hK
      clear hK
      go_simp
      refine HK.out _ _ hS0 ?_
      clear HK K
      refine any_one 6 (by kernel_rfl) rfl rfl (fun K hK => ?_)
      have HK := veil hK
      clear hK
      go_simp
      refine HTy.out.mono ?_
      rintro e w3 ⟨⟨t, k1, f1, x1, b1, m1, c1, rfl, hcs, hft⟩, hb3⟩
      have hb13 : Below W.heap.size W w3 := HBd.out.trans (hb3.mono HBd.out.size)
      have HFd : Hid (FdC (Fresh n1 w3) w3 ⟨s, t⟩ [.string s, .int .i64 k1, .string f1, .string x1, .slice b1 m1 c1]) := ⟨k1, f1, x1, b1, m1, c1, rfl, by unfold maxLen; show s.size ≤ _; omega, hcs.keep ⟨fun _ _ => rfl, fun b hb' => ⟨Nat.le_trans (Nat.le_trans hn HBd.out.size) hb'.1, hb'.2⟩⟩⟩
      have HFt : Hid (fdFault ⟨s, t⟩ = 0) := by unfold Hid fdFault; rw [if_pos HI.out]; exact hft
      have hm3 := HM.out.keep (hb13.mono hn)
      have HM3 := veil hm3
      obtain ⟨yt, ht⟩ := hm3.ts
      have HU := veil ht
      have HB13 := veil hb13
      have hsz3 := hb13.size
      have hS1 : w3.cell? ⟨R, 1, none⟩ = some (.int .i64 ra) := (hb13.cell (p := ⟨R, 1, none⟩) hRW).trans hS0
      have hc1 : w3.cell? ⟨M, 1, none⟩ = some vt := (hb13.cell (p := ⟨M, 1, none⟩) hMW).trans hc0
      have HFarM : Hid (some M ≠ vt.ownBlock) := fun h => by have := ownsRow_in ht.own _ h.symm; omega
      have HFarR : Hid (some R ≠ vt.ownBlock) := fun h => by have := ht.old _ h.symm; omega
      clear hcs hft hb3 hb13 hm3 ht HTy hc0
      go_simp
      refine HK.out _ _ hS1 ?_
      clear HK K
      refine any_take 7 rfl rfl (by kernel_rfl) (by kernel_rfl) (by kernel_rfl) (fun _ _ _ h => h) (v := .agg #[.string s, .int .i64 k1, .string f1, .string x1, .slice b1 m1 c1]) (Or.inl ⟨by rfl, fun w hw => by go_simp⟩) hS1 ?_
      refine any_one 8 (by kernel_rfl) rfl rfl (fun K hK => ?_)
      have HK := veil hK
      clear hK
      go_simp
      have hS2 : (w3.alloc (.cells #[.string s, .int .i64 k1, .string f1, .string x1, .slice b1 m1 c1] 63)).cell? ⟨R, 1, none⟩ = some (.int .i64 ra) := by
        rw [World.cell?_alloc_old _ _ _ (by show R ≠ _; omega)]; exact hS1
      have hc2 : (w3.alloc (.cells #[.string s, .int .i64 k1, .string f1, .string x1, .slice b1 m1 c1] 63)).cell? ⟨M, 1, none⟩ = some vt := by
        rw [World.cell?_alloc_old _ _ _ (by show M ≠ _; omega)]; exact hc1
      refine HK.out _ _ hS2 ?_
      clear HK K
      refine any_one 9 (by kernel_rfl) rfl rfl (fun K hK => ?_)
      have HOld : Hid (∀ k', k' < w3.heap.size → (w3.alloc (.cells #[.string s, .int .i64 k1, .string f1, .string x1, .slice b1 m1 c1] 63)).heap[k']? = w3.heap[k']?) := fun k' hk' => heap_alloc_old _ _ hk'
      have HNews : Hid (∀ j u, ([.string s, .int .i64 k1, .string f1, .string x1, .slice b1 m1 c1] : List Value)[j]? = some u → (w3.alloc (.cells #[.string s, .int .i64 k1, .string f1, .string x1, .slice b1 m1 c1] 63)).cell? ((⟨w3.heap.size, 0, none⟩ : Addr).add j) = some u) :=
        World.news_of_block (cs := #[.string s, .int .i64 k1, .string f1, .string x1, .slice b1 m1 c1]) (t := 63) (fr := (0, 0)) (heap_alloc_new w3 _)
      have HOne : Hid (∀ u ∈ ([.string s, .int .i64 k1, .string f1, .string x1, .slice b1 m1 c1] : List Value), u.oneCell' = true) := by intro u hu; simp at hu; rcases hu with rfl | rfl | rfl | rfl | rfl <;> rfl
      have HHs : Hid ((w3.alloc (.cells #[.string s, .int .i64 k1, .string f1, .string x1, .slice b1 m1 c1] 63)).heap.size = w3.heap.size + 1) := by show (w3.alloc _).heap.size = _; simp
      refine wp_append_lies _ _ _ _ rfl base 63 i0 _ 5 80 Tryz.underlying23 HI0.out HZ0.out HZ1.out HZ2.out rfl (by omega) vt mo.types.length yt rfl (HU.out.own.alloc _) ⟨w3.heap.size, 0, none⟩ 1 1 [.string s, .int .i64 k1, .string f1, .string x1, .slice b1 m1 c1] rfl rfl HNews.out HOne.out (by omega) (by unfold maxLen; omega) (by omega) (by rw [HHs.out]; omega) _ HHs.out (fun g cap w1 hown1 hgrow hat1 hlt => ?_)
      have hg := grewM_store (o := 1) (W := w3) (W0 := w3.alloc (.cells #[.string s, .int .i64 k1, .string f1, .string x1, .slice b1 m1 c1] 63)) hM (by omega) (by rw [HHs.out]; omega) rfl rfl rfl HOld.out hgrow HM3.out.mod HFarM.out hown1 (hat1.imp_right (fun h => by omega))
      have HP := veil (HM3.out.pushT HU.out hg rfl HFd.out)
      have HBl := veil ((HB13.out.mono (by omega : M ≤ W.heap.size)).trans (hg.below HU.out.own hM (by omega)))
      have hb1 : w1.heap[M]? = some (.cells #[vu, vt, vf] 26 (0, 0)) := (hgrow.block M (by rw [HHs.out]; omega) HFarM.out).trans ((HOld.out M (by omega)).trans HM3.out.mod)
      have hcM : w1.cell? ⟨M, 1, none⟩ = some vt := by rw [cell_of_row w1 M 1 _ _ _ hb1]; rfl
      have hfM : w1.frozen? ⟨M, 1, none⟩ = false := Lib.frozen_of_heap hb1 1
      have hS3 : w1.cell? ⟨R, 1, none⟩ = some (.int .i64 ra) := (hgrow.cell_far ⟨R, 1, none⟩ (by rw [HHs.out]; show R < _; omega) HFarR.out).trans hS2
      refine hK _ _ hS3 ?_
      clear hK K hgrow hown1 hg hb1 hS1 hc1 hS2 hc2 HNews HOne
      refine any_take 10 rfl rfl (by kernel_rfl) (by kernel_rfl) (by kernel_rfl) (fun _ _ _ h => h) (v := .pointer (some ⟨M, 1, none⟩)) (Or.inl ⟨by rfl, fun w hw => by go_simp⟩) hS3 ?_
      refine any_one 11 (by kernel_rfl) rfl rfl (fun K hK => ?_)
      have HK := veil hK
      clear hK
      go_simp
      refine HK.out _ _ ?_ (wpAnyH_done (by kernel_rfl) ⟨_, _, _, _, _, _, _, _, _, _, _, rfl, ⟨s, t⟩, _, HFt.out, HP.out, HBl.out⟩ _)
      show World.cell? _ _ = _
      rw [World.cell?_setCell_other _ _ _ _ (by intro h; injection h with h _ _; omega)]
      exact hS3
    · have HK := veil hK
      clear hK
      go_simp
      refine HTy.out.mono ?_
      rintro e w3 ⟨⟨t, k1, f1, x1, b1, m1, c1, rfl, hcs, hft⟩, hb3⟩
      have hb13 : Below W.heap.size W w3 := HBd.out.trans (hb3.mono HBd.out.size)
      have HFd : Hid (FdC (Fresh n1 w3) w3 ⟨s, t⟩ [.string s, .int .i64 k1, .string f1, .string x1, .slice b1 m1 c1]) := ⟨k1, f1, x1, b1, m1, c1, rfl, by unfold maxLen; show s.size ≤ _; omega, hcs.keep ⟨fun _ _ => rfl, fun b hb' => ⟨Nat.le_trans (Nat.le_trans hn HBd.out.size) hb'.1, hb'.2⟩⟩⟩
      have HFt : Hid (fdFault ⟨s, t⟩ = 0) := by unfold Hid fdFault; rw [if_pos HI.out]; exact hft
      have hm3 := HM.out.keep (hb13.mono hn)
      have HM3 := veil hm3
      obtain ⟨yt, ht⟩ := hm3.ts
      have HU := veil ht
      have HB13 := veil hb13
      have hsz3 := hb13.size
      have hS1 : w3.cell? ⟨R, 1, none⟩ = some (.int .i64 ra) := (hb13.cell (p := ⟨R, 1, none⟩) hRW).trans hS0
      have hc1 : w3.cell? ⟨M, 1, none⟩ = some vt := (hb13.cell (p := ⟨M, 1, none⟩) hMW).trans hc0
      have HFarM : Hid (some M ≠ vt.ownBlock) := fun h => by have := ownsRow_in ht.own _ h.symm; omega
      have HFarR : Hid (some R ≠ vt.ownBlock) := fun h => by have := ht.old _ h.symm; omega
      clear hcs hft hb3 hb13 hm3 ht HTy hc0
      go_simp
      refine HK.out _ _ hS1 ?_
      clear HK K
      refine any_take 7 rfl rfl (by kernel_rfl) (by kernel_rfl) (by kernel_rfl) (fun _ _ _ h => h) (v := .agg #[.string s, .int .i64 k1, .string f1, .string x1, .slice b1 m1 c1]) (Or.inl ⟨by rfl, fun w hw => by go_simp⟩) hS1 ?_
      refine any_two 1 8 (by kernel_rfl) rfl rfl rfl rfl (fun K hK => ?_) (fun K hK => ?_)
      · have HK := veil hK
        clear hK
        go_simp
        refine HK.out _ _ hS1 ?_
        clear HK K
        refine any_one 8 (by kernel_rfl) rfl rfl (fun K hK => ?_)
        have HK := veil hK
        clear hK
        go_simp
        have hS2 : (w3.alloc (.cells #[.string s, .int .i64 k1, .string f1, .string x1, .slice b1 m1 c1] 63)).cell? ⟨R, 1, none⟩ = some (.int .i64 ra) := by
          rw [World.cell?_alloc_old _ _ _ (by show R ≠ _; omega)]; exact hS1
        have hc2 : (w3.alloc (.cells #[.string s, .int .i64 k1, .string f1, .string x1, .slice b1 m1 c1] 63)).cell? ⟨M, 1, none⟩ = some vt := by
          rw [World.cell?_alloc_old _ _ _ (by show M ≠ _; omega)]; exact hc1
        refine HK.out _ _ hS2 ?_
        clear HK K
        refine any_one 9 (by kernel_rfl) rfl rfl (fun K hK => ?_)
        have HOld : Hid (∀ k', k' < w3.heap.size → (w3.alloc (.cells #[.string s, .int .i64 k1, .string f1, .string x1, .slice b1 m1 c1] 63)).heap[k']? = w3.heap[k']?) := fun k' hk' => heap_alloc_old _ _ hk'
        have HNews : Hid (∀ j u, ([.string s, .int .i64 k1, .string f1, .string x1, .slice b1 m1 c1] : List Value)[j]? = some u → (w3.alloc (.cells #[.string s, .int .i64 k1, .string f1, .string x1, .slice b1 m1 c1] 63)).cell? ((⟨w3.heap.size, 0, none⟩ : Addr).add j) = some u) :=
          World.news_of_block (cs := #[.string s, .int .i64 k1, .string f1, .string x1, .slice b1 m1 c1]) (t := 63) (fr := (0, 0)) (heap_alloc_new w3 _)
        have HOne : Hid (∀ u ∈ ([.string s, .int .i64 k1, .string f1, .string x1, .slice b1 m1 c1] : List Value), u.oneCell' = true) := by intro u hu; simp at hu; rcases hu with rfl | rfl | rfl | rfl | rfl <;> rfl
        have HHs : Hid ((w3.alloc (.cells #[.string s, .int .i64 k1, .string f1, .string x1, .slice b1 m1 c1] 63)).heap.size = w3.heap.size + 1) := by show (w3.alloc _).heap.size = _; simp
        refine wp_append_lies _ _ _ _ rfl base 63 i0 _ 5 80 Tryz.underlying23 HI0.out HZ0.out HZ1.out HZ2.out rfl (by omega) vt mo.types.length yt rfl (HU.out.own.alloc _) ⟨w3.heap.size, 0, none⟩ 1 1 [.string s, .int .i64 k1, .string f1, .string x1, .slice b1 m1 c1] rfl rfl HNews.out HOne.out (by omega) (by unfold maxLen; omega) (by omega) (by rw [HHs.out]; omega) _ HHs.out (fun g cap w1 hown1 hgrow hat1 hlt => ?_)
        have hg := grewM_store (o := 1) (W := w3) (W0 := w3.alloc (.cells #[.string s, .int .i64 k1, .string f1, .string x1, .slice b1 m1 c1] 63)) hM (by omega) (by rw [HHs.out]; omega) rfl rfl rfl HOld.out hgrow HM3.out.mod HFarM.out hown1 (hat1.imp_right (fun h => by omega))
        have HP := veil (HM3.out.pushT HU.out hg rfl HFd.out)
        have HBl := veil ((HB13.out.mono (by omega : M ≤ W.heap.size)).trans (hg.below HU.out.own hM (by omega)))
        have hb1 : w1.heap[M]? = some (.cells #[vu, vt, vf] 26 (0, 0)) := (hgrow.block M (by rw [HHs.out]; omega) HFarM.out).trans ((HOld.out M (by omega)).trans HM3.out.mod)
        have hcM : w1.cell? ⟨M, 1, none⟩ = some vt := by rw [cell_of_row w1 M 1 _ _ _ hb1]; rfl
        have hfM : w1.frozen? ⟨M, 1, none⟩ = false := Lib.frozen_of_heap hb1 1
        have hS3 : w1.cell? ⟨R, 1, none⟩ = some (.int .i64 ra) := (hgrow.cell_far ⟨R, 1, none⟩ (by rw [HHs.out]; show R < _; omega) HFarR.out).trans hS2
        refine hK _ _ hS3 ?_
        clear hK K hgrow hown1 hg hb1 hS1 hc1 hS2 hc2 HNews HOne
        refine any_take 10 rfl rfl (by kernel_rfl) (by kernel_rfl) (by kernel_rfl) (fun _ _ _ h => h) (v := .pointer (some ⟨M, 1, none⟩)) (Or.inl ⟨by rfl, fun w hw => by go_simp⟩) hS3 ?_
        refine any_one 11 (by kernel_rfl) rfl rfl (fun K hK => ?_)
        have HK := veil hK
        clear hK
        go_simp
        refine HK.out _ _ ?_ (wpAnyH_done (by kernel_rfl) ⟨_, _, _, _, _, _, _, _, _, _, _, rfl, ⟨s, t⟩, _, HFt.out, HP.out, HBl.out⟩ _)
        show World.cell? _ _ = _
        rw [World.cell?_setCell_other _ _ _ _ (by intro h; injection h with h _ _; omega)]
        exact hS3
      · have HK := veil hK
        clear hK
        go_simp
        have hS2 : (w3.alloc (.cells #[.string s, .int .i64 k1, .string f1, .string x1, .slice b1 m1 c1] 63)).cell? ⟨R, 1, none⟩ = some (.int .i64 ra) := by
          rw [World.cell?_alloc_old _ _ _ (by show R ≠ _; omega)]; exact hS1
        have hc2 : (w3.alloc (.cells #[.string s, .int .i64 k1, .string f1, .string x1, .slice b1 m1 c1] 63)).cell? ⟨M, 1, none⟩ = some vt := by
          rw [World.cell?_alloc_old _ _ _ (by show M ≠ _; omega)]; exact hc1
        refine HK.out _ _ hS2 ?_
        clear HK K
        refine any_one 1 (by kernel_rfl) rfl rfl (fun K hK => ?_)
        have HK := veil hK
        clear hK
        go_simp
        refine HK.out _ _ hS2 ?_
        clear HK K
        refine any_one 9 (by kernel_rfl) rfl rfl (fun K hK => ?_)
        have HOld : Hid (∀ k', k' < w3.heap.size → (w3.alloc (.cells #[.string s, .int .i64 k1, .string f1, .string x1, .slice b1 m1 c1] 63)).heap[k']? = w3.heap[k']?) := fun k' hk' => heap_alloc_old _ _ hk'
        have HNews : Hid (∀ j u, ([.string s, .int .i64 k1, .string f1, .string x1, .slice b1 m1 c1] : List Value)[j]? = some u → (w3.alloc (.cells #[.string s, .int .i64 k1, .string f1, .string x1, .slice b1 m1 c1] 63)).cell? ((⟨w3.heap.size, 0, none⟩ : Addr).add j) = some u) :=
          World.news_of_block (cs := #[.string s, .int .i64 k1, .string f1, .string x1, .slice b1 m1 c1]) (t := 63) (fr := (0, 0)) (heap_alloc_new w3 _)
        have HOne : Hid (∀ u ∈ ([.string s, .int .i64 k1, .string f1, .string x1, .slice b1 m1 c1] : List Value), u.oneCell' = true) := by intro u hu; simp at hu; rcases hu with rfl | rfl | rfl | rfl | rfl <;> rfl
        have HHs : Hid ((w3.alloc (.cells #[.string s, .int .i64 k1, .string f1, .string x1, .slice b1 m1 c1] 63)).heap.size = w3.heap.size + 1) := by show (w3.alloc _).heap.size = _; simp
        refine wp_append_lies _ _ _ _ rfl base 63 i0 _ 5 80 Tryz.underlying23 HI0.out HZ0.out HZ1.out HZ2.out rfl (by omega) vt mo.types.length yt rfl (HU.out.own.alloc _) ⟨w3.heap.size, 0, none⟩ 1 1 [.string s, .int .i64 k1, .string f1, .string x1, .slice b1 m1 c1] rfl rfl HNews.out HOne.out (by omega) (by unfold maxLen; omega) (by omega) (by rw [HHs.out]; omega) _ HHs.out (fun g cap w1 hown1 hgrow hat1 hlt => ?_)
        have hg := grewM_store (o := 1) (W := w3) (W0 := w3.alloc (.cells #[.string s, .int .i64 k1, .string f1, .string x1, .slice b1 m1 c1] 63)) hM (by omega) (by rw [HHs.out]; omega) rfl rfl rfl HOld.out hgrow HM3.out.mod HFarM.out hown1 (hat1.imp_right (fun h => by omega))
        have HP := veil (HM3.out.pushT HU.out hg rfl HFd.out)
        have HBl := veil ((HB13.out.mono (by omega : M ≤ W.heap.size)).trans (hg.below HU.out.own hM (by omega)))
        have hb1 : w1.heap[M]? = some (.cells #[vu, vt, vf] 26 (0, 0)) := (hgrow.block M (by rw [HHs.out]; omega) HFarM.out).trans ((HOld.out M (by omega)).trans HM3.out.mod)
        have hcM : w1.cell? ⟨M, 1, none⟩ = some vt := by rw [cell_of_row w1 M 1 _ _ _ hb1]; rfl
        have hfM : w1.frozen? ⟨M, 1, none⟩ = false := Lib.frozen_of_heap hb1 1
        have hS3 : w1.cell? ⟨R, 1, none⟩ = some (.int .i64 ra) := (hgrow.cell_far ⟨R, 1, none⟩ (by rw [HHs.out]; show R < _; omega) HFarR.out).trans hS2
        refine hK _ _ hS3 ?_
        clear hK K hgrow hown1 hg hb1 hS1 hc1 hS2 hc2 HNews HOne
        refine any_take 10 rfl rfl (by kernel_rfl) (by kernel_rfl) (by kernel_rfl) (fun _ _ _ h => h) (v := .pointer (some ⟨M, 1, none⟩)) (Or.inl ⟨by rfl, fun w hw => by go_simp⟩) hS3 ?_
        refine any_one 11 (by kernel_rfl) rfl rfl (fun K hK => ?_)
        have HK := veil hK
        clear hK
        go_simp
        refine HK.out _ _ ?_ (wpAnyH_done (by kernel_rfl) ⟨_, _, _, _, _, _, _, _, _, _, _, rfl, ⟨s, t⟩, _, HFt.out, HP.out, HBl.out⟩ _)
        show World.cell? _ _ = _
        rw [World.cell?_setCell_other _ _ _ _ (by intro h; injection h with h _ _; omega)]
        exact hS3

end Go.Proofs.YtieoddnaknpmlabGreatDoor
