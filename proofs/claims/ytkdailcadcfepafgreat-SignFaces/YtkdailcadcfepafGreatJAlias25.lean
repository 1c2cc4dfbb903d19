/- The reference's solved at a name that is met first: the region, in whatever order it runs. -/
import Derived.Test.YtkdailcadcfepafGreatJAlias24
namespace Go.Proofs.YtkdailcadcfepafGreat
open Go.RowKit
set_option maxRecDepth 100000

set_option maxRecDepth 100000 in
set_option maxHeartbeats 2000000 in
theorem on_region (t0 t2 t3 t6 t7 t9 t10 t11 t12 t13 t14 t15 t16 t17 t18 t19 t21 t22 t23 t24 t25 t26 t27 t28 t29 t30 t31 t32 t33 t34 t35 t36 t37 t38 t39 t40 t41 t42 t43 t44 t45 t46 t47 t48 t49 t50 t51 t52 t53 t54 t55 t56 t57 t58 t59 t60 t61 t62 t63 t64 t65 t66 t67 t68 t69 t70 t71 t72 t73 t74 t75 t76 t77 t78 t79 t80 t81 t82 t83 t84 t85 t86 t87 t88 t89 t90 t91 t92 t93 t94 t95 t96 t97 t98 t99 t100 t101 t102 t103 t104 t105 t106 t107 t108 t109 t110 t111 t112 : Value) (u1 f1 la ua p1 : Option Addr) (u2 u3 tn tc f2 f3 ln lc uc p2 p3 : Nat) (M X b off k : Nat) (kd : Int) (n fo na rs : ByteArray) (rc : Int) (under : List ByteArray) (W : World) (hk : k < tn)
    (hM0 : W.cell? ⟨M, 0, none⟩ = some (.slice u1 u2 u3)) (hM1 : W.cell? ⟨M, 1, none⟩ = some (.slice (some ⟨b, off, none⟩) tn tc)) (hM2 : W.cell? ⟨M, 2, none⟩ = some (.slice f1 f2 f3)) (hX2 : W.cell? ⟨X, 2, none⟩ = some (.string n))
    (hc1 : W.cell? ⟨b, off + k * 5 + 1, none⟩ = some (.int .i64 kd)) (hc2 : W.cell? ⟨b, off + k * 5 + 2, none⟩ = some (.string fo)) (hc3 : W.cell? ⟨b, off + k * 5 + 3, none⟩ = some (.string na)) (hc4 : W.cell? ⟨b, off + k * 5 + 4, none⟩ = some (.slice p1 p2 p3))
    (hn : under = [] → ua = none ∧ uc = 0) (hun : SlAt (fun b => b < W.heap.size) (StrAt W) 1 under (.slice ua under.length uc)) (hl : under.length ≤ 30) (hsz : ∀ t ∈ under ++ [n], t.size ≤ maxLen)
    (hcall : ∀ W' va, Below W.heap.size W W' → SlAt (fun b => b < W'.heap.size) (StrAt W') 1 (under ++ [n]) va → 0 < (under ++ [n]).length → Calls Tryz.prog 61 #[.agg #[.slice u1 u2 u3, .slice (some ⟨b, off, none⟩) tn tc, .slice f1 f2 f3], .slice la ln lc, .string ⟨#[]⟩, .agg #[.int .i64 kd, .string fo, .string na, .slice p1 p2 p3], va] W' (Tells W' (rs, rc))) :
    Code.wp Tryz.prog (Code.region 26 opsOn true) (Normal fun a w => ∃ v96 v97 v98 v99 v100 v101 v102 v103 v104 v105 v106 v107 v108 v109 v110 v111 v112, a = { tmps := #[t0, (.slice la ln lc), t2, t3, (.slice ua under.length uc), (.pointer (some ⟨M, 0, none⟩)), t6, t7, (.pointer (some ⟨X, 0, none⟩)), t9, (.string rs), (.int .i64 rc), t12, t13, t14, t15, t16, t17, t18, t19, (.int .i64 k), t21, t22, t23, t24, t25, t26, t27, t28, t29, t30, t31, t32, t33, t34, t35, t36, t37, t38, t39, t40, t41, t42, t43, t44, t45, t46, t47, t48, t49, t50, t51, t52, t53, t54, t55, t56, t57, t58, t59, t60, t61, t62, t63, t64, t65, t66, t67, t68, t69, t70, t71, t72, t73, t74, t75, t76, t77, t78, t79, t80, t81, t82, t83, t84, t85, t86, t87, t88, t89, t90, t91, t92, t93, t94, t95, v96, v97, v98, v99, v100, v101, v102, v103, v104, v105, v106, v107, v108, v109, v110, v111, v112], defers := [] } ∧ Below W.heap.size W w) { tmps := #[t0, (.slice la ln lc), t2, t3, (.slice ua under.length uc), (.pointer (some ⟨M, 0, none⟩)), t6, t7, (.pointer (some ⟨X, 0, none⟩)), t9, t10, t11, t12, t13, t14, t15, t16, t17, t18, t19, (.int .i64 k), t21, t22, t23, t24, t25, t26, t27, t28, t29, t30, t31, t32, t33, t34, t35, t36, t37, t38, t39, t40, t41, t42, t43, t44, t45, t46, t47, t48, t49, t50, t51, t52, t53, t54, t55, t56, t57, t58, t59, t60, t61, t62, t63, t64, t65, t66, t67, t68, t69, t70, t71, t72, t73, t74, t75, t76, t77, t78, t79, t80, t81, t82, t83, t84, t85, t86, t87, t88, t89, t90, t91, t92, t93, t94, t95, t96, t97, t98, t99, t100, t101, t102, t103, t104, t105, t106, t107, t108, t109, t110, t111, t112], defers := [] } W := by
  have hS0 : Below W.heap.size W W.drew := (Below.refl _ _).drew
  have hbM := World.block_lt_of_cell? _ _ hM0
  have hbX := World.block_lt_of_cell? _ _ hX2
  have hbb := World.block_lt_of_cell? _ _ hc1
  have hk' : (k : Int) < (tn : Int) := by omega
  have hk0 : (0 : Int) ≤ (k : Int) := by omega
  obtain ⟨i0, hi0, hz0, hz1, hz2⟩ := info_parts str_info
  have HI0 := veil hi0
  have HZ0 := veil hz0
  have HZ1 := veil hz1
  have HZ2 := veil hz2
  have HUn := veil hun
  have HCall := veil hcall
  have HSz := veil hsz
  clear hi0 hz0 hz1 hz2 hun hcall hsz
  unfold opsOn
  refine wp_region_held_drew (S := fun w' => Below W.heap.size W w') (by kernel_rfl) hS0 (fun hHeld => ?_)
  clear hHeld
  refine any_take 0 rfl rfl (by kernel_rfl) (by kernel_rfl) (by kernel_rfl) (fun _ _ _ h => h) (v := .agg #[.slice u1 u2 u3, .slice (some ⟨b, off, none⟩) tn tc, .slice f1 f2 f3]) (Or.inl ⟨by rfl, fun w hw => by have ehM0 := (Below.cell hw (p := ⟨M, 0, none⟩) hbM).trans hM0; have ehM1 := (Below.cell hw (p := ⟨M, 1, none⟩) hbM).trans hM1; have ehM2 := (Below.cell hw (p := ⟨M, 2, none⟩) hbM).trans hM2; go_simp⟩) hS0 ?_
  refine any_take 1 rfl rfl (by kernel_rfl) (by kernel_rfl) (by kernel_rfl) (fun _ _ _ h => h) (v := .slice la ln lc) (Or.inl ⟨by rfl, fun w hw => by go_simp⟩) hS0 ?_
  refine any_take 2 rfl rfl (by kernel_rfl) (by kernel_rfl) (by kernel_rfl) (fun _ _ _ h => h) (v := .pointer (some ⟨M, 1, none⟩)) (Or.inl ⟨by rfl, fun w hw => by go_simp⟩) hS0 ?_
  refine any_take 3 rfl rfl (by kernel_rfl) (by kernel_rfl) (by kernel_rfl) (fun _ _ _ h => h) (v := .slice (some ⟨b, off, none⟩) tn tc) (Or.inl ⟨by rfl, fun w hw => by have ehM1 := (Below.cell hw (p := ⟨M, 1, none⟩) hbM).trans hM1; go_simp⟩) hS0 ?_
  refine any_take 4 rfl rfl (by kernel_rfl) (by kernel_rfl) (by kernel_rfl) (fun _ _ _ h => h) (v := .int .i64 k) (Or.inl ⟨by rfl, fun w hw => by go_simp⟩) hS0 ?_
  refine any_take 5 rfl rfl (by kernel_rfl) (by kernel_rfl) (by kernel_rfl) (fun _ _ _ h => h) (v := .pointer (some ⟨b, off + k * 5, none⟩)) (Or.inl ⟨by rfl, fun w hw => by go_simp⟩) hS0 ?_
  refine any_take 6 rfl rfl (by kernel_rfl) (by kernel_rfl) (by kernel_rfl) (fun _ _ _ h => h) (v := .pointer (some ⟨b, off + k * 5 + 1, none⟩)) (Or.inl ⟨by rfl, fun w hw => by go_simp⟩) hS0 ?_
  refine any_take 7 rfl rfl (by kernel_rfl) (by kernel_rfl) (by kernel_rfl) (fun _ _ _ h => h) (v := .agg #[.int .i64 kd, .string fo, .string na, .slice p1 p2 p3]) (Or.inl ⟨by rfl, fun w hw => by have ehc1 := (Below.cell hw (p := ⟨b, off + k * 5 + 1, none⟩) hbb).trans hc1; have ehc2 := (Below.cell hw (p := ⟨b, off + k * 5 + 2, none⟩) hbb).trans hc2; have ehc3 := (Below.cell hw (p := ⟨b, off + k * 5 + 3, none⟩) hbb).trans hc3; have ehc4 := (Below.cell hw (p := ⟨b, off + k * 5 + 4, none⟩) hbb).trans hc4; go_simp⟩) hS0 ?_
  refine any_take 8 rfl rfl (by kernel_rfl) (by kernel_rfl) (by kernel_rfl) (fun _ _ _ h => h) (v := .slice ua under.length uc) (Or.inl ⟨by rfl, fun w hw => by go_simp⟩) hS0 ?_
  refine any_take 10 rfl rfl (by kernel_rfl) (by kernel_rfl) (by kernel_rfl) (fun _ _ _ h => h) (v := .pointer (some ⟨X, 2, none⟩)) (Or.inl ⟨by rfl, fun w hw => by go_simp⟩) hS0 ?_
  refine any_take 11 rfl rfl (by kernel_rfl) (by kernel_rfl) (by kernel_rfl) (fun _ _ _ h => h) (v := .string n) (Or.inl ⟨by rfl, fun w hw => by have ehX2 := (Below.cell hw (p := ⟨X, 2, none⟩) hbX).trans hX2; go_simp⟩) hS0 ?_
  clear hM0 hM1 hM2 hX2 hc1 hc2 hc3 hc4
  refine any_two 9 12 (by kernel_rfl) rfl rfl rfl rfl (fun K hK => ?_) (fun K hK => ?_)
  · have HK := veil hK
    clear hK
    refine wp_copy_under (W := W) (.tmp 104) rfl under ua uc (by go_simp) hn HUn.out hl hS0 (fun va w1 hown1 hb1 => ?_)
    have hS1 : Below W.heap.size W w1 := hS0.trans (hb1.mono hS0.size)
    have HOwn1 := veil hown1
    refine HK.out _ _ hS1 ?_
    clear HK K hown1 hb1
    refine any_one 12 (by kernel_rfl) rfl rfl (fun K hK => ?_)
    have HK := veil hK
    clear hK
    have hS2 : Below W.heap.size W (w1.alloc (.cells #[.string n] 9)) := hS1.alloc hS1.size _
    have HBw := veil hS2
    have HOwn : Hid ((w1.alloc (.cells #[.string n] 9)).ownsRow W.heap.size 9 1 va under.length (strVals under)) := HOwn1.out.alloc _
    have HNews : Hid (∀ j u, ([.string n] : List Value)[j]? = some u → (w1.alloc (.cells #[.string n] 9)).cell? ((⟨w1.heap.size, 0, none⟩ : Addr).add j) = some u) :=
      World.news_of_block (cs := #[.string n]) (t := 9) (fr := (0, 0)) (heap_alloc_new w1 _)
    go_simp
    refine HK.out _ _ hS2 ?_
    clear HK K hS1 HOwn1
    generalize w1.heap.size = g at *
    refine any_one 13 (by kernel_rfl) rfl rfl (fun K hK => ?_)
    have HK := veil hK
    clear hK
    refine wp_append_lies _ _ _ _ rfl W.heap.size 9 i0 _ 1 16 Tryz.underlying22 HI0.out HZ0.out HZ1.out HZ2.out rfl (by omega) va under.length (strVals under) rfl HOwn.out ⟨g, 0, none⟩ 1 1 [.string n] rfl rfl HNews.out (fun u hu => by simp at hu; subst hu; rfl) (by omega) (by unfold maxLen; omega) (by omega) HBw.out.size _ rfl (fun g2 cap2 w3 hown3 hgrow3 hat3 hlt3 => ?_)
    have hb3 : Below W.heap.size W w3 := ⟨hgrow3.os.trans HBw.out.os, hgrow3.tape.trans HBw.out.tape, hgrow3.output.trans HBw.out.output, Nat.le_trans HBw.out.size hgrow3.size, fun j hj => (hgrow3.block j (Nat.lt_of_lt_of_le hj HBw.out.size) (fun h => by have := ownsRow_at HOwn.out _ h.symm; omega)).trans (HBw.out.block j hj)⟩
    have HSl3 : Hid (SlAt (fun b => b < w3.heap.size) (StrAt w3) 1 (under ++ [n]) (.slice (some ⟨g2, 0, none⟩) (under.length + 1) cap2)) := ownsRow_strs (B := W.heap.size) (by rw [List.length_append, List.length_singleton]; rw [show strVals (under ++ [n]) = strVals under ++ [.string n] by simp [strVals]]; exact hown3) (by rw [List.length_append, List.length_singleton]; unfold maxLen; omega) HSz.out
    have HC3 := veil (HCall.out w3 _ hb3 HSl3.out (by simp))
    have HB3 := veil hb3
    refine HK.out _ _ hb3 ?_
    clear HK K hown3 hgrow3 hat3 hlt3 hb3 HOwn HNews HBw HSl3 HCall
    refine any_one 14 (by kernel_rfl) rfl rfl (fun K hK => ?_)
    have HK := veil hK
    clear hK
    go_simp
    refine HC3.out.mono ?_
    rintro e w4 ⟨rfl, hb4⟩
    have hS4 : Below W.heap.size W w4 := HB3.out.trans (hb4.mono HB3.out.size)
    go_simp
    refine HK.out _ _ hS4 ?_
    clear HK K HC3 HB3 hb4
    refine any_take 15 rfl rfl (by kernel_rfl) (by kernel_rfl) (by kernel_rfl) (fun _ _ _ h => h) (v := .string rs) (Or.inl ⟨by rfl, fun w hw => by go_simp⟩) hS4 ?_
    refine any_take 16 rfl rfl (by kernel_rfl) (by kernel_rfl) (by kernel_rfl) (fun _ _ _ h => h) (v := .int .i64 rc) (Or.inl ⟨by rfl, fun w hw => by go_simp⟩) hS4 ?_
    refine any_one 17 (by kernel_rfl) rfl rfl (fun K hK => ?_)
    have HK := veil hK
    clear hK
    go_simp
    refine HK.out _ _ hS4 ?_
    clear HK K
    refine any_one 18 (by kernel_rfl) rfl rfl (fun K hK => ?_)
    have HK := veil hK
    clear hK
    go_simp
    refine HK.out _ _ hS4 (wpAnyH_done (by kernel_rfl) ⟨_, _, _, _, _, _, _, _, _, _, _, _, _, _, _, _, _, rfl, hS4⟩ _)
  · have HK := veil hK
    clear hK
    have hS1 : Below W.heap.size W (W.drew.alloc (.cells #[.string n] 9)) := hS0.alloc hS0.size _
    have HN1 : Hid ((W.drew.alloc (.cells #[.string n] 9)).heap[W.heap.size]? = some (.cells #[.string n] 9 (0, 0))) := heap_alloc_new W.drew _
    have HLt1 : Hid (W.heap.size < (W.drew.alloc (.cells #[.string n] 9)).heap.size) := by show _ < (W.drew.alloc _).heap.size; simp
    go_simp
    refine HK.out _ _ hS1 ?_
    clear HK K
    refine any_one 9 (by kernel_rfl) rfl rfl (fun K hK => ?_)
    have HK := veil hK
    clear hK
    refine wp_copy_under (W := W) (.tmp 104) rfl under ua uc rfl hn HUn.out hl hS1 (fun va w2 hown2 hb2 => ?_)
    have hS2 : Below W.heap.size W w2 := hS1.trans (hb2.mono hS1.size)
    have HBw := veil hS2
    have HOwn := veil hown2
    have HNews : Hid (∀ j u, ([.string n] : List Value)[j]? = some u → w2.cell? ((⟨W.heap.size, 0, none⟩ : Addr).add j) = some u) :=
      World.news_of_block (cs := #[.string n]) (t := 9) (fr := (0, 0)) ((hb2.block _ HLt1.out).trans HN1.out)
    refine HK.out _ _ hS2 ?_
    clear HK K hS1 HN1 HLt1 hown2 hb2
    refine any_one 13 (by kernel_rfl) rfl rfl (fun K hK => ?_)
    have HK := veil hK
    clear hK
    refine wp_append_lies _ _ _ _ rfl W.heap.size 9 i0 _ 1 16 Tryz.underlying22 HI0.out HZ0.out HZ1.out HZ2.out rfl (by omega) va under.length (strVals under) rfl HOwn.out ⟨W.heap.size, 0, none⟩ 1 1 [.string n] rfl rfl HNews.out (fun u hu => by simp at hu; subst hu; rfl) (by omega) (by unfold maxLen; omega) (by omega) HBw.out.size _ rfl (fun g2 cap2 w3 hown3 hgrow3 hat3 hlt3 => ?_)
    have hb3 : Below W.heap.size W w3 := ⟨hgrow3.os.trans HBw.out.os, hgrow3.tape.trans HBw.out.tape, hgrow3.output.trans HBw.out.output, Nat.le_trans HBw.out.size hgrow3.size, fun j hj => (hgrow3.block j (Nat.lt_of_lt_of_le hj HBw.out.size) (fun h => by have := ownsRow_at HOwn.out _ h.symm; omega)).trans (HBw.out.block j hj)⟩
    have HSl3 : Hid (SlAt (fun b => b < w3.heap.size) (StrAt w3) 1 (under ++ [n]) (.slice (some ⟨g2, 0, none⟩) (under.length + 1) cap2)) := ownsRow_strs (B := W.heap.size) (by rw [List.length_append, List.length_singleton]; rw [show strVals (under ++ [n]) = strVals under ++ [.string n] by simp [strVals]]; exact hown3) (by rw [List.length_append, List.length_singleton]; unfold maxLen; omega) HSz.out
    have HC3 := veil (HCall.out w3 _ hb3 HSl3.out (by simp))
    have HB3 := veil hb3
    refine HK.out _ _ hb3 ?_
    clear HK K hown3 hgrow3 hat3 hlt3 hb3 HOwn HNews HBw HSl3 HCall
    refine any_one 14 (by kernel_rfl) rfl rfl (fun K hK => ?_)
    have HK := veil hK
    clear hK
    go_simp
    refine HC3.out.mono ?_
    rintro e w4 ⟨rfl, hb4⟩
    have hS4 : Below W.heap.size W w4 := HB3.out.trans (hb4.mono HB3.out.size)
    go_simp
    refine HK.out _ _ hS4 ?_
    clear HK K HC3 HB3 hb4
    refine any_take 15 rfl rfl (by kernel_rfl) (by kernel_rfl) (by kernel_rfl) (fun _ _ _ h => h) (v := .string rs) (Or.inl ⟨by rfl, fun w hw => by go_simp⟩) hS4 ?_
    refine any_take 16 rfl rfl (by kernel_rfl) (by kernel_rfl) (by kernel_rfl) (fun _ _ _ h => h) (v := .int .i64 rc) (Or.inl ⟨by rfl, fun w hw => by go_simp⟩) hS4 ?_
    refine any_one 17 (by kernel_rfl) rfl rfl (fun K hK => ?_)
    have HK := veil hK
    clear hK
    go_simp
    refine HK.out _ _ hS4 ?_
    clear HK K
    refine any_one 18 (by kernel_rfl) rfl rfl (fun K hK => ?_)
    have HK := veil hK
    clear hK
    go_simp
    refine HK.out _ _ hS4 (wpAnyH_done (by kernel_rfl) ⟨_, _, _, _, _, _, _, _, _, _, _, _, _, _, _, _, _, rfl, hS4⟩ _)

end Go.Proofs.YtkdailcadcfepafGreat
