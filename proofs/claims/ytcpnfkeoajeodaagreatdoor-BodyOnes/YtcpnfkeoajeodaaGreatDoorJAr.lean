/- The reference's solved at a name that is met first: the region, in whatever order it runs. -/
import Derived.Test.YtcpnfkeoajeodaaGreatDoorJAlias24
namespace Go.Proofs.YtcpnfkeoajeodaaGreatDoor
open Go.RowKit
set_option maxRecDepth 100000

set_option maxRecDepth 100000 in
set_option maxHeartbeats 2000000 in
theorem on_region (t0 t2 t3 t6 t7 t9 t10 t11 t12 t13 t14 t15 t16 t17 t18 t19 t21 t22 t23 t24 t25 t26 t27 t28 t29 t30 t31 t32 t33 t34 t35 t36 t37 t38 t39 t40 t41 t42 t43 t44 t45 t46 t47 t48 t49 t50 t51 t52 t53 t54 t55 t56 t57 t58 t59 t60 t61 t62 t63 t64 t65 t66 t67 t68 t69 t70 t71 t72 t73 t74 t75 t76 t77 t78 t79 t80 t81 t82 t83 t84 t85 t86 t87 t88 t89 t90 t91 t92 t93 t94 t95 t96 t97 t98 t99 t100 t101 t102 t103 t104 t105 t106 t107 t108 t109 t110 t111 t112 : Value) (u1 f1 la ua p1 : Option Addr) (u2 u3 tn tc f2 f3 ln lc uc p2 p3 : Nat) (M X b off k : Nat) (kd : Int) (n fo na rs : ByteArray) (rc : Int) (under : List ByteArray) (W : World) (hk : k < tn)
    (hM0 : W.cell? ⟨M, 0, none⟩ = some (.slice u1 u2 u3)) (hM1 : W.cell? ⟨M, 1, none⟩ = some (.slice (some ⟨b, off, none⟩) tn tc)) (hM2 : W.cell? ⟨M, 2, none⟩ = some (.slice f1 f2 f3)) (hX2 : W.cell? ⟨X, 2, none⟩ = some (.string n))
    (hc1 : W.cell? ⟨b, off + k * 5 + 1, none⟩ = some (.int .i64 kd)) (hc2 : W.cell? ⟨b, off + k * 5 + 2, none⟩ = some (.string fo)) (hc3 : W.cell? ⟨b, off + k * 5 + 3, none⟩ = some (.string na)) (hc4 : W.cell? ⟨b, off + k * 5 + 4, none⟩ = some (.slice p1 p2 p3))
    (hn : under = [] → ua = none ∧ uc = 0) (hun : SlAt (fun b => b < W.heap.size) (StrAt W) 1 under (.slice ua under.length uc)) (hl : under.length ≤ 30) (hsz : ∀ t ∈ under ++ [n], t.size ≤ maxLen)
    (hcall : ∀ W' va, Below W.heap.size W W' → SlAt (fun b => b < W'.heap.size) (StrAt W') 1 (under ++ [n]) va → 0 < (under ++ [n]).length → Calls Tryz.prog 61 #[.agg #[.slice u1 u2 u3, .slice (some ⟨b, off, none⟩) tn tc, .slice f1 f2 f3], .slice la ln lc, .string ⟨#[]⟩, .agg #[.int .i64 kd, .string fo, .string na, .slice p1 p2 p3], va] W' (Tells W' (rs, rc))) :
    Code.wp Tryz.prog (Code.region 26 opsOn true) (Normal fun a w => ∃ v96 v97 v98 v99 v100 v101 v102 v103 v104 v105 v106 v107 v108 v109 v110 v111 v112, a = { tmps := #[t0, (.slice la ln lc), t2, t3, (.slice ua under.length uc), (.pointer (some ⟨M, 0, none⟩)), t6, t7, (.pointer (some ⟨X, 0, none⟩)), t9, (.string rs), (.int .i64 rc), t12, t13, t14, t15, t16, t17, t18, t19, (.int .i64 k), t21, t22, t23, t24, t25, t26, t27, t28, t29, t30, t31, t32, t33, t34, t35, t36, t37, t38, t39, t40, t41, t42, t43, t44, t45, t46, t47, t48, t49, t50, t51, t52, t53, t54, t55, t56, t57, t58, t59, t60, t61, t62, t63, t64, t65, t66, t67, t68, t69, t70, t71, t72, t73, t74, t75, t76, t77, t78, t79, t80, t81, t82, t83, t84, t85, t86, t87, t88, t89, t90, t91, t92, t93, t94, t95, v96, v97, v98, v99, v100, v101, v102, v103, v104, v105, v106, v107, v108, v109, v110, v111, v112], defers := [] } ∧ Below W.heap.size W w) { tmps := #[t0, (.slice la ln lc), t2, t3, (.slice ua under.length uc), (.pointer (some ⟨M, 0, none⟩)), t6, t7, (.pointer (some ⟨X, 0, none⟩)), t9, t10, t11, t12, t13, t14, t15, t16, t17, t18, t19, (.int .i64 k), t21, t22, t23, t24, t25, t26, t27, t28, t29, t30, t31, t32, t33, t34, t35, t36, t37, t38, t39, t40, t41, t42, t43, t44, t45, t46, t47, t48, t49, t50, t51, t52, t53, t54, t55, t56, t57, t58, t59, t60, t61, t62, t63, t64, t65, t66, t67, t68, t69, t70, t71, t72, t73, t74, t75, t76, t77, t78, t79, t80, t81, t82, t83, t84, t85, t86, t87, t88, t89, t90, t91, t92, t93, t94, t95, t96, t97, t98, t99, t100, t101, t102, t103, t104, t105, t106, t107, t108, t109, t110, t111, t112], defers := [] } W := by
  have hS0 : Below W.heap.size W W.drew := (Below.refl _ _).drew
  have hbM := World.block_lt_of_cell? _ _ hM0
  have hbX := World.block_lt_of_cell? _ _ hX2
  have hbb := World.block_lt_of_cell? _ _ hc1
  have hk' : (k : Int) < (tn : Int) := by omega
  have hk0 : (0 : Int) ≤ (k : Int) := by omega
  obtain ⟨i0, hi0, hz0, hz1, hz2⟩ := info_parts str_info
  have HI0 := veil hi0
  have HZ0 := veil hz0
  have HZ1 := veil hz1
  have HZ2 := veil hz2
  have HUn := veil hun
  have HCall := veil hcall
  have HSz := veil hsz
  clear hi0 hz0 hz1 hz2 hun hcall hsz
  unfold opsOn
  refine wp_region_held_drew (S := fun w' => Below W.heap.size W w') (by kernel_rfl) hS0 (fun hHeld => ?_)
  clear hHeld
  refine any_take 0 rfl rfl (by kernel_rfl) (by kernel_rfl) (by kernel_rfl) (fun _ _ _ h => h) (v := .agg #[.slice u1 u2 u3, .slice (some ⟨b, off, none⟩) tn tc, .slice f1 f2 f3]) (Or.inl ⟨by rfl, fun w hw => by have ehM0 := (Below.cell hw (p := ⟨M, 0, none⟩) hbM).trans hM0; have ehM1 := (Below.cell hw (p := ⟨M, 1, none⟩) hbM).trans hM1; have ehM2 := (Below.cell hw (p := ⟨M, 2, none⟩) hbM).trans hM2; go_simp⟩) hS0 ?_
  refine any_take 1 rfl rfl (by kernel_rfl) (by kernel_rfl) (by kernel_rfl) (fun _ _ _ h => h) (v := .slice la ln lc) (Or.inl ⟨by rfl, fun w hw => by go_simp⟩) hS0 ?_
  refine any_take 2 rfl rfl (by kernel_rfl) (by kernel_rfl) (by kernel_rfl) (fun _ _ _ h => h) (v := .pointer (some ⟨M, 1, none⟩)) (Or.inl ⟨by rfl, fun w hw => by go_simp⟩) hS0 ?_
  refine any_take 3 rfl rfl (by kernel_rfl) (by kernel_rfl) (by kernel_rfl) (fun _ _ _ h => h) (v := .slice (some ⟨b, off, none⟩) tn tc) (Or.inl ⟨by rfl, fun w hw => by have ehM1 := (Below.cell hw (p := ⟨M, 1, none⟩) hbM).trans hM1; go_simp⟩) hS0 ?_
  refine any_take 4 rfl rfl (by kernel_rfl) (by kernel_rfl) (by kernel_rfl) (fun _ _ _ h => h) (v := .int .i64 k) (Or.inl ⟨by rfl, fun w hw => by go_simp⟩) hS0 ?_
  refine any_take 5 rfl rfl (by kernel_rfl) (by kernel_rfl) (by kernel_rfl) (fun _ _ _ h => h) (v := .pointer (some ⟨b, off + k * 5, none⟩)) (Or.inl ⟨by rfl, fun w hw => by go_simp⟩) hS0 ?_
  refine any_take 6 rfl rfl (by kernel_rfl) (by kernel_rfl) (by kernel_rfl) (fun _ _ _ h => h) (v := .pointer (some ⟨b, off + k * 5 + 1, none⟩)) (Or.inl ⟨by rfl, fun w hw => by go_simp⟩) hS0 ?_
  refine any_take 7 rfl rfl (by kernel_rfl) (by kernel_rfl) (by kernel_rfl) (fun _ _ _ h => h) (v := .agg #[.int .i64 kd, .string fo, .string na, .slice p1 p2 p3]) (Or.inl ⟨by rfl, fun w hw => by have ehc1 := (Below.cell hw (p := ⟨b, off + k * 5 + 1, none⟩) hbb).trans hc1; have ehc2 := (Below.cell hw (p := ⟨b, off + k * 5 + 2, none⟩) hbb).trans hc2; have ehc3 := (Below.cell hw (p := ⟨b, off + k * 5 + 3, none⟩) hbb).trans hc3; have ehc4 := (Below.cell hw (p := ⟨b, off + k * 5 + 4, none⟩) hbb).trans hc4; go_simp⟩) hS0 ?_
  refine any_take 8 rfl rfl (by kernel_rfl) (by kernel_rfl) (by kernel_rfl) (fun _ _ _ h => h) (v := .slice ua under.length uc) (Or.inl ⟨by rfl, fun w hw => by go_simp⟩) hS0 ?_
  refine any_take 10 rfl rfl (by kernel_rfl) (by kernel_rfl) (by kernel_rfl) (fun _ _ _ h => h) (v := .pointer (some ⟨X, 2, none⟩)) (Or.inl ⟨by rfl, fun w hw => by go_simp⟩) hS0 ?_
  refine any_take 11 rfl rfl (by kernel_rfl) (by kernel_rfl) (by kernel_rfl) (fun _ _ _ h => h) (v := .string n) (Or.inl ⟨by rfl, fun w hw => by have ehX2 := (Below.cell hw (p := ⟨X, 2, none⟩) hbX).trans hX2; go_simp⟩) hS0 ?_
  clear hM0 hM1 hM2 hX2 hc1 hc2 hc3 hc4
  refine any_two 9 12 (by kernel_rfl) rfl rfl rfl rfl (fun K hK => ?_) (fun K hK => ?_)
  · have HK := veil hK
    clear hK
    refine wp_copy_under (W := W) (.tmp 104) rfl under ua uc (by go_simp) hn HUn.out hl hS0 (fun va w1 hown1 hb1 => ?_)
    have hS1 : Below W.heap.size W w1 := hS0.trans (hb1.mono hS0.size)
    have HOwn1 := veil hown1
    refine HK.out _ _ hS1 ?_
    clear HK K hown1 hb1
    refine any_one 12 (by kernel_rfl) rfl rfl (fun K hK => ?_)
    have HK := veil hK
    clear hK
    have hS2 : Below W.heap.size W (w1.alloc (.cells #[.string n] 9)) := hS1.alloc hS1.size _
    have HBw := veil hS2
    have HOwn : Hid ((w1.alloc (.cells #[.string n] 9)).ownsRow W.heap.size 9 1 va under.length (strVals under)) := HOwn1.out.alloc _
    have HNews : Hid (∀ j u, ([.string n] : List Value)[j]? = some u → (w1.alloc (.cells #[.string n] 9)).cell? ((⟨w1.heap.size, 0, none⟩ : Addr).add j) = some u) :=
      World.news_of_block (cs := #[.string n]) (t := 9) (fr := (0, 0)) (heap_alloc_new w1 _)
    go_simp
    refine HK.out _ _ hS2 ?_
    clear HK K hS1 HOwn1
    generalize w1.heap.size = g at *
    refine any_one 13 (by kernel_rfl) rfl rfl (fun K hK => ?_)
    have HK := veil hK
    clear hK
    refine wp_append_lies _ _ _ _ rfl W.heap.size 9 i0 _ 1 16 Tryz.underlying22 HI0.out HZ0.out HZ1.out HZ2.out rfl (by omega) va under.length (strVals under) rfl HOwn.out ⟨g, 0, none⟩ 1 1 [.string n] rfl rfl HNews.out (fun u hu => by simp at hu; subst hu; rfl) (by omega) (by unfold maxLen; omega) (by omega) HBw.out.size _ rfl (fun g2 cap2 w3 hown3 hgrow3 hat3 hlt3 => ?_)
    have hb3 : Below W.heap.size W w3 := ⟨hgrow3.os.trans HBw.out.os, hgrow3.tape.trans HBw.out.tape, hgrow3.output.trans HBw.out.output, Nat.le_trans HBw.out.size hgrow3.size, fun j hj => (hgrow3.block j (Nat.lt_of_lt_of_le hj HBw.out.size) (fun h => by have := ownsRow_at HOwn.out _ h.symm; omega)).trans (HBw.out.block j hj)⟩
    have HSl3 : Hid (SlAt (fun b => b < w3.heap.size) (StrAt w3) 1 (under ++ [n]) (.slice (some ⟨g2, 0, none⟩) (under.length + 1) cap2)) := ownsRow_strs (B := W.heap.size) (by rw [List.length_append, List.length_singleton]; rw [show strVals (under ++ [n]) = strVals under ++ [.string n] by simp [strVals]]; exact hown3) (by rw [List.length_append, List.length_singleton]; unfold maxLen; omega) HSz.out
    have HC3 := veil (HCall.out w3 _ hb3 HSl3.out (by simp))
    have HB3 := veil hb3
    refine HK.out _ _ hb3 ?_
    clear HK K hown3 hgrow3 hat3 hlt3 hb3 HOwn HNews HBw HSl3 HCall
    refine any_one 14 (by kernel_rfl) rfl rfl (fun K hK => ?_)
    have HK := veil hK
    clear hK
    go_simp
    refine HC3.out.mono ?_
    rintro e w4 ⟨rfl, hb4⟩
    have hS4 : Below W.heap.size W w4 := HB3.out.trans (hb4.mono HB3.out.size)
    go_simp
    refine HK.out _ _ hS4 ?_
    clear HK K HC3 HB3 hb4
    refine any_take 15 rfl rfl (by kernel_rfl) (by kernel_rfl) (by kernel_rfl) (fun _ _ _ h => h) (v := .string rs) (Or.inl ⟨by rfl, fun w hw => by go_simp⟩) hS4 ?_
    refine any_take 16 rfl rfl (by kernel_rfl) (by kernel_rfl) (by kernel_rfl) (fun _ _ _ h => h) (v := .int .i64 rc) (Or.inl ⟨by rfl, fun w hw => by go_simp⟩) hS4 ?_
    refine any_one 17 (by kernel_rfl) rfl rfl (fun K hK => ?_)
    have HK := veil hK
    clear hK
    go_simp
    refine HK.out _ _ hS4 ?_
    clear HK K
    refine any_one 18 (by kernel_rfl) rfl rfl (fun K hK => ?_)
    have HK := veil hK
    clear hK
    go_simp
    refine HK.out _ _ hS4 (wpAnyH_done (by kernel_rfl) ⟨_, _, _, _, _, _, _, _, _, _, _, _, _, _, _, _, _, rfl, hS4⟩ _)
  · have HK := veil hK
    clear hK
    have hS1 : Below W.heap.size W (W.drew.alloc (.cells #[.string n] 9)) := hS0.alloc hS0.size _
    have HN1 : Hid ((W.drew.alloc (.cells #[.string n] 9)).heap[W.heap.size]? = some (.cells #[.string n] 9 (0, 0))) := heap_alloc_new W.drew _
    have HLt1 : Hid (W.heap.size < (W.drew.alloc (.cells #[.string n] 9)).heap.size) := by show _ < (W.drew.alloc _).heap.size; simp
    go_simp
    refine HK.out _ _ hS1 ?_
    clear HK K
    refine any_one 9 (by kernel_rfl) rfl rfl (fun K hK => ?_)
    have HK := veil hK
    clear hK
    refine wp_copy_under (W := W) (.tmp 104) rfl under ua uc rfl hn HUn.out hl hS1 (fun va w2 hown2 hb2 => ?_)
    have hS2 : Below W.heap.size W w2 := hS1.trans (hb2.mono hS1.size)
    have HBw := veil hS2
    have HOwn := veil hown2
    have HNews : Hid (∀ j u, ([.string n] : List Value)[j]? = some u → w2.cell? ((⟨W.heap.size, 0, none⟩ : Addr).add j) = some u) :=
      World.news_of_block (cs := #[.string n]) (t := 9) (fr := (0, 0)) ((hb2.block _ HLt1.out).trans HN1.out)
    refine HK.out _ _ hS2 ?_
    clear HK K hS1 HN1 HLt1 hown2 hb2
    refine any_one 13 (by kernel_rfl) rfl rfl (fun K hK => ?_)
    have HK := veil hK
    clear hK
    refine wp_append_lies _ _ _ _ rfl W.heap.size 9 i0 _ 1 16 Tryz.underlying22 HI0.out HZ0.out HZ1.out HZ2.out rfl (by omega) va under.length (strVals under) rfl HOwn.out ⟨W.heap.size, 0, none⟩ 1 1 [.string n] rfl rfl HNews.out (fun u hu => by simp at hu; subst hu; rfl) (by omega) (by unfold maxLen; omega) (by omega) HBw.out.size _ rfl (fun g2 cap2 w3 hown3 hgrow3 hat3 hlt3 => ?_)
    have hb3 : Below W.heap.size W w3 := ⟨hgrow3.os.trans HBw.out.os, hgrow3.tape.trans HBw.out.tape, hgrow3.output.trans HBw.out.output, Nat.le_trans HBw.out.size hgrow3.size, fun j hj => (hgrow3.block j (Nat.lt_of_lt_of_le hj HBw.out.size) (fun h => by have := ownsRow_at HOwn.out _ h.symm; omega)).trans (HBw.out.block j hj)⟩
    have HSl3 : Hid (SlAt (fun b => b < w3.heap.size) (StrAt w3) 1 (under ++ [n]) (.slice (some ⟨g2, 0, none⟩) (under.length + 1) cap2)) := ownsRow_strs (B := W.heap.size) (by rw [List.length_append, List.length_singleton]; rw [show strVals (under ++ [n]) = strVals under ++ [.string n] by simp [strVals]]; exact hown3) (by rw [List.length_append, List.length_singleton]; unfold maxLen; omega) HSz.out
    have HC3 := veil (HCall.out w3 _ hb3 HSl3.out (by simp))
    have HB3 := veil hb3
    refine HK.out _ _ hb3 ?_
    clear HK K hown3 hgrow3 hat3 hlt3 hb3 HOwn HNews HBw HSl3 HCall
    refine any_one 14 (by kernel_rfl) rfl rfl (fun K hK => ?_)
    have HK := veil hK
    clear hK
    go_simp
    refine HC3.out.mono ?_
    rintro e w4 ⟨rfl, hb4⟩
    have hS4 : Below W.heap.size W w4 := HB3.out.trans (hb4.mono HB3.out.size)
    go_simp
    refine HK.out _ _ hS4 ?_
    clear HK K HC3 HB3 hb4
    refine any_take 15 rfl rfl (by kernel_rfl) (by kernel_rfl) (by kernel_rfl) (fun _ _ _ h => h) (v := .string rs) (Or.inl ⟨by rfl, fun w hw => by go_simp⟩) hS4 ?_
    refine any_take 16 rfl rfl (by kernel_rfl) (by kernel_rfl) (by kernel_rfl) (fun _ _ _ h => h) (v := .int .i64 rc) (Or.inl ⟨by rfl, fun w hw => by go_simp⟩) hS4 ?_
    refine any_one 17 (by kernel_rfl) rfl rfl (fun K hK => ?_)
    have HK := veil hK
    clear hK
    go_simp
    refine HK.out _ _ hS4 ?_
    clear HK K
    refine any_one 18 (by kernel_rfl) rfl rfl (fun K hK => ?_)
    have HK := veil hK
    clear hK
    go_simp
    refine HK.out _ _ hS4 (wpAnyH_done (by kernel_rfl) ⟨_, _, _, _, _, _, _, _, _, _, _, _, _, _, _, _, _, rfl, hS4⟩ _)

end Go.Proofs.YtcpnfkeoajeodaaGreatDoor

/- What the reference's solved answers: by the names under which it is solved. -/
namespace Go.Proofs.YtcpnfkeoajeodaaGreatDoor
open Go.RowKit
set_option maxRecDepth 100000

set_option maxHeartbeats 4000000 in
theorem solved_on (S : Nat → Prop) (m : Mo) (u1 t1 f1 la ua a : Option Addr) (u2 u3 t3 f2 f3 ln lc uc c cap : Nat) (vv o n : ByteArray) (W : World) (under : List ByteArray) (r : Sol) (hS : ∀ b, S b → b < W.heap.size) (hm : MoIs S W m (.agg #[.slice u1 u2 u3, .slice t1 m.types.length t3, .slice f1 f2 f3])) (ho : o.toList.isEmpty = true) (hv : (!vv.toList.isEmpty && sEq n vv) = false) (ha : ownAt m n < m.types.length) (hh : hasS under n = false)
    (hn : under = [] → ua = none ∧ uc = 0) (hun : SlAt (fun b => b < W.heap.size) (StrAt W) 1 under (.slice ua under.length uc)) (hl : under.length ≤ 30) (hsz : ∀ t ∈ under ++ [n], t.size ≤ maxLen)
    (hcall : ∀ W' v va, Below W.heap.size W W' → TyIs S W' m.types[ownAt m n].is v → SlAt (fun b => b < W'.heap.size) (StrAt W') 1 (under ++ [n]) va → 0 < (under ++ [n]).length → Calls Tryz.prog 61 #[.agg #[.slice u1 u2 u3, .slice t1 m.types.length t3, .slice f1 f2 f3], .slice la ln lc, .string ⟨#[]⟩, v, va] W' (Tells W' r)) :
    Calls Tryz.prog 61 #[.agg #[.slice u1 u2 u3, .slice t1 m.types.length t3, .slice f1 f2 f3], .slice la ln lc, .string vv, .agg #[.int .i64 4, .string o, .string n, .slice a c cap], .slice ua under.length uc] W (Tells W r) := by
  have HT : Hid (∀ W', Below W.heap.size W W' → Calls Tryz.prog 89 #[.agg #[.slice u1 u2 u3, .slice t1 m.types.length t3, .slice f1 f2 f3], .string n] W' fun e w' => e = .returned (.int .i64 (ownAt m n : Nat)) ∧ Below W'.heap.size W' w') := fun W' hW' => by
    have := typeAt_any S m n _ W' (fun b hb => Nat.lt_of_lt_of_le (hS b hb) hW'.size) (hm.keep (Keeps.below hW' hS))
    rwa [own_idx ha] at this
  have HH : Hid (∀ W', Below W.heap.size W W' → Calls Tryz.prog 62 #[.slice ua under.length uc, .string n] W' fun e w' => e = .returned (.bool false) ∧ Below W'.heap.size W' w') := fun W' hW' => by
    have := hasText_any (fun b => b < W.heap.size) under n _ W' (fun b hb => Nat.lt_of_lt_of_le hb hW'.size) (strSl_keep (Keeps.below hW' (fun _ h => h)) hun)
    rwa [hh] at this
  obtain ⟨_, b, off, rfl, hb, hat⟩ := (mo_types_sl hm).at ha
  obtain ⟨kd, fo, na, p1, p2, p3, a0, a1, a2, a3, a4, hcs⟩ := fd_cells hat
  have hbW := hS b hb
  have HUn : Hid (∀ W', Below W.heap.size W W' → SlAt (fun b => b < W'.heap.size) (StrAt W') 1 under (.slice ua under.length uc)) := fun W' hW' => strSl_keep (S' := fun b => b < W'.heap.size) ⟨fun b hb => hW'.block b hb, fun b hb => Nat.lt_of_lt_of_le hb hW'.size⟩ hun
  have HCall : Hid (∀ W1, Below W.heap.size W W1 → ∀ W' va, Below W1.heap.size W1 W' → SlAt (fun b => b < W'.heap.size) (StrAt W') 1 (under ++ [n]) va → 0 < (under ++ [n]).length → Calls Tryz.prog 61 #[.agg #[.slice u1 u2 u3, .slice (some ⟨b, off, none⟩) m.types.length t3, .slice f1 f2 f3], .slice la ln lc, .string ⟨#[]⟩, .agg #[.int .i64 kd, .string fo, .string na, .slice p1 p2 p3], va] W' (Tells W' (r.1, r.2))) := fun W1 h1 W' va h2 hva hpos => by
    have h3 := h1.trans (h2.mono h1.size)
    exact hcall W' _ va h3 ⟨_, _, _, _, rfl, hcs.keep (Keeps.below h3 hS)⟩ hva hpos
  obtain ⟨w2, hwe, hs2, p0, p1', p2', q0, q1, q2, hbel⟩ : ∃ w2, (W.alloc (.cells #[.slice u1 u2 u3, .slice (some ⟨b, off, none⟩) m.types.length t3, .slice f1 f2 f3] 26)).alloc (.cells #[.int .i64 4, .string o, .string n, .slice a c cap] 49) = w2 ∧ w2.heap.size = W.heap.size + 2 ∧ w2.cell? ⟨W.heap.size, 0, none⟩ = some (.slice u1 u2 u3) ∧ w2.cell? ⟨W.heap.size, 1, none⟩ = some (.slice (some ⟨b, off, none⟩) m.types.length t3) ∧ w2.cell? ⟨W.heap.size, 2, none⟩ = some (.slice f1 f2 f3) ∧ w2.cell? ⟨W.heap.size + 1, 0, none⟩ = some (.int .i64 4) ∧ w2.cell? ⟨W.heap.size + 1, 1, none⟩ = some (.string o) ∧ w2.cell? ⟨W.heap.size + 1, 2, none⟩ = some (.string n) ∧ Below W.heap.size W w2 :=
    ⟨_, rfl, by simp, by simp [go_sem], by simp [go_sem], by simp [go_sem], by simp [go_sem], by simp [go_sem], by simp [go_sem], ((Below.refl _ _).alloc (Nat.le_refl _) _).alloc (by simp) _⟩
  have HBel := veil hbel
  have HWe := veil hwe
  have hvn : vv.toList.isEmpty = true ∨ vv.toList.isEmpty = false ∧ (n.toList == vv.toList) = false := by
    cases h : vv.toList.isEmpty with
    | true => exact Or.inl rfl
    | false => rw [h] at hv; exact Or.inr ⟨rfl, hv⟩
  clear hm hwe hbel hv hun hh hcall hat hcs
  have hkn := ha
  generalize ownAt m n = k at *
  have hk0 : ¬ (k : Int) < 0 := by omega
  have HN := veil hn
  clear hn
  rcases hvn with hve | ⟨hve, hvs⟩
  all_goals
    go_enter Tryz.func61, Tryz.ntmps61
    go_wp2_with fail
    rw [HWe.out]
    refine (HT.out _ HBel.out).mono ?_
    rintro e w3 ⟨rfl, hb3⟩
    have hB3 := HBel.out.trans (hb3.mono HBel.out.size)
    have r2 := (hb3.cell (p := ⟨W.heap.size + 1, 2, none⟩) (by show W.heap.size + 1 < _; omega)).trans q2
    have HB3 := veil hB3
    have HB23 := veil hb3
    clear hb3 hB3
    go_wp2_with fail
    refine (HH.out _ HB3.out).mono ?_
    rintro e w4 ⟨rfl, hb4⟩
    have hb24 := HB23.out.trans (hb4.mono HB23.out.size)
    have hB4 := HBel.out.trans (hb24.mono HBel.out.size)
    have y0 := (hb24.cell (p := ⟨W.heap.size, 0, none⟩) (by show W.heap.size < _; omega)).trans p0
    have y1 := (hb24.cell (p := ⟨W.heap.size, 1, none⟩) (by show W.heap.size < _; omega)).trans p1'
    have y2 := (hb24.cell (p := ⟨W.heap.size, 2, none⟩) (by show W.heap.size < _; omega)).trans p2'
    have y3 := (hb24.cell (p := ⟨W.heap.size + 1, 2, none⟩) (by show W.heap.size + 1 < _; omega)).trans q2
    have z1 := (hB4.cell (p := ⟨b, off + k * 5 + 1, none⟩) hbW).trans a1
    have z2 := (hB4.cell (p := ⟨b, off + k * 5 + 2, none⟩) hbW).trans a2
    have z3 := (hB4.cell (p := ⟨b, off + k * 5 + 3, none⟩) hbW).trans a3
    have z4 := (hB4.cell (p := ⟨b, off + k * 5 + 4, none⟩) hbW).trans a4
    have HUn4 := veil (HUn.out w4 hB4)
    have HC4 := veil (HCall.out w4 hB4)
    have HB4 := veil hB4
    clear hb4 hb24 hB4 r2 HB3 HB23 p0 p1' p2' q0 q1 q2 a0 a1 a2 a3 a4 HT HH HUn HCall
    go_wp2_with fail
    refine Code.wp_mono ?_ (on_region _ _ _ _ _ _ _ _ _ _ _ _ _ _ _ _ _ _ _ _ _ _ _ _ _ _ _ _ _ _ _ _ _ _ _ _ _ _ _ _ _ _ _ _ _ _ _ _ _ _ _ _ _ _ _ _ _ _ _ _ _ _ _ _ _ _ _ _ _ _ _ _ _ _ _ _ _ _ _ _ _ _ _ _ _ _ _ _ _ _ _ _ _ _ _ _ _ _ _ _ _ _ _ _ _ _ _ _ u1 f1 la ua p1 u2 u3 m.types.length t3 f2 f3 ln lc uc p2 p3 W.heap.size (W.heap.size + 1) b off k kd n fo na r.1 r.2 under w4 hkn y0 y1 y2 y3 z1 z2 z3 z4 HN.out HUn4.out hl hsz HC4.out)
    intro e a w' h
    cases e with
    | normal =>
      obtain ⟨v96, v97, v98, v99, v100, v101, v102, v103, v104, v105, v106, v107, v108, v109, v110, v111, v112, rfl, hb5⟩ := h
      have HB5 := veil (HB4.out.trans (hb5.mono HB4.out.size))
      clear hb5 y0 y1 y2 y3 z1 z2 z3 z4
      go_wp2_with fail
      go_ret2
      exact ⟨rfl, HB5.out⟩
    | _ => exact h.elim

theorem refR_size {m : Mo} {l : List Im} (hz : ∀ i ∈ l, fcSmall i.face) : ∀ (u : Nat) (v : ByteArray) (under : List ByteArray) (o n : ByteArray), (refR m l u v under o n).1.size ≤ maxLen
  | 0, v, under, o, n => by
    unfold refR
    split
    · split
      · show (1 : Nat) ≤ _
        unfold maxLen; omega
      · split <;> exact Nat.zero_le _
    · exact impR_size hz o n
  | u + 1, v, under, o, n => by
    unfold refR
    split
    · split
      · show (1 : Nat) ≤ _
        unfold maxLen; omega
      · cases m.types[ownAt m n]? with
        | none => exact Nat.zero_le _
        | some f =>
          simp only
          split
          · exact Nat.zero_le _
          · exact solveP_size (fun o n => refR_size hz u _ _ o n) 10 _
    · exact impR_size hz o n

theorem refR_none' {m : Mo} {l : List Im} {u : Nat} {v : ByteArray} {under : List ByteArray} {o n : ByteArray} (ho : o.toList.isEmpty = true) (hv : (!v.toList.isEmpty && sEq n v) = false) (ha : ¬ ownAt m n < m.types.length) : refR m l u v under o n = (noneS, 5) := by
  rw [refR_plain hv, refR_none ho ha]

/-- the reference's solved, at whatever type that may be, under whatever names. -/
theorem solved_any (m : Mo) (l : List Im) (u1 t1 f1 la : Option Addr) (u2 u3 t3 f2 f3 ln lc : Nat) (hz : ∀ i ∈ l, fcSmall i.face) (hi : imsFault l = 0) (hty : ∀ f ∈ m.types, identOk f.name = true ∧ tyFault f.is 1 = 0) :
    ∀ (u : Nat) (S : Nat → Prop) (vv : ByteArray) (under : List ByteArray) (met : List Nat) (ua : Option Addr) (uc : Nat) (d : Nat) (t : Ty) (dd : Nat) (v : Value) (W : World), (∀ b, S b → b < W.heap.size) → MoIs S W m (.agg #[.slice u1 u2 u3, .slice t1 m.types.length t3, .slice f1 f2 f3]) → SlAt S (ImAt S W) 4 l (.slice la ln lc) → Meets m under met → unmet met m.types.length ≤ u → under.length + u ≤ 24 → (∀ s ∈ under, s.size ≤ maxLen) →
      (under = [] → ua = none ∧ uc = 0) → SlAt (fun b => b < W.heap.size) (StrAt W) 1 under (.slice ua under.length uc) → tyFault t dd = 0 → 11 ≤ dd + d → TyIs S W t v → Calls Tryz.prog 61 #[.agg #[.slice u1 u2 u3, .slice t1 m.types.length t3, .slice f1 f2 f3], .slice la ln lc, .string vv, v, .slice ua under.length uc] W (Tells W (solveP (refR m l u vv under) d t)) := by
  intro u
  induction u with
  | zero =>
    intro S vv under met ua uc d t dd v W hS hm hl hmt hu hul hus hn hun ht hd hv
    refine solved_R W S hS (refR m l 0 vv under) (fun o n => refR_size hz 0 vv under o n) (fun W' => Below W.heap.size W W') (fun _ h => h) (fun W1 W2 h1 h2 => h1.trans (h2.mono h1.size)) u1 t1 f1 la ua u2 u3 m.types.length t3 f2 f3 ln lc under.length uc vv
      (fun o n a c cap W' hW' => ?_) d t dd v W ht hd (Below.refl _ _) hv
    have hS' : ∀ b, S b → b < W'.heap.size := fun b hb => Nat.lt_of_lt_of_le (hS b hb) hW'.size
    have hm' := hm.keep (Keeps.below hW' hS)
    have hl' := imSl_keep (Keeps.below hW' hS) hl
    have hun2 : SlAt (fun b => b < W'.heap.size) (StrAt W') 1 under (.slice ua under.length uc) := strSl_keep (S' := fun b => b < W'.heap.size) ⟨fun b hb => hW'.block b hb, fun b hb => Nat.lt_of_lt_of_le hb hW'.size⟩ hun
    have hend : ∀ r, Calls Tryz.prog 61 #[.agg #[.slice u1 u2 u3, .slice t1 m.types.length t3, .slice f1 f2 f3], .slice la ln lc, .string vv, .agg #[.int .i64 4, .string o, .string n, .slice a c cap], .slice ua under.length uc] W' (Tells W' r) → Calls Tryz.prog 61 #[.agg #[.slice u1 u2 u3, .slice t1 m.types.length t3, .slice f1 f2 f3], .slice la ln lc, .string vv, .agg #[.int .i64 4, .string o, .string n, .slice a c cap], .slice ua under.length uc] W' (Tells W r) := fun r h => h.mono fun e w' he => ⟨he.1, hW'.trans (he.2.mono hW'.size)⟩
    apply hend
    cases ho : o.toList.isEmpty with
    | false => rw [refR_imp ho]; exact solved_imp W' S hS' m l u1 t1 f1 la ua a u2 u3 m.types.length t3 f2 f3 ln lc under.length uc c cap vv o n hm' hl' hi ho W' (Below.refl _ _)
    | true =>
      cases hvv : (!vv.toList.isEmpty && sEq n vv) with
      | true => rw [refR_star ho hvv]; exact solved_star W' u1 t1 f1 la ua a u2 u3 m.types.length t3 f2 f3 ln lc under.length uc c cap vv o n ho hvv W' (Below.refl _ _)
      | false =>
        by_cases ha : ownAt m n < m.types.length
        · have hh : hasS under n = true := by rw [← hmt n ha]; exact unmet_zero (met := met) (n := m.types.length) (by omega) _ ha
          rw [refR_plain hvv, refR_round ho ha hh]
          exact solved_round W' S hS' m u1 t1 f1 la ua a u2 u3 m.types.length t3 f2 f3 ln lc under.length uc c cap vv o n hm' ho hvv ha W' (Below.refl _ _) under hun2 hh
        · rw [refR_none' ho hvv ha]
          exact solved_none W' S hS' m u1 t1 f1 la ua a u2 u3 m.types.length t3 f2 f3 ln lc under.length uc c cap vv o n hm' ho hvv ha W' (Below.refl _ _)
  | succ u ih =>
    intro S vv under met ua uc d t dd v W hS hm hl hmt hu hul hus hn hun ht hd hv
    refine solved_R W S hS (refR m l (u + 1) vv under) (fun o n => refR_size hz (u + 1) vv under o n) (fun W' => Below W.heap.size W W') (fun _ h => h) (fun W1 W2 h1 h2 => h1.trans (h2.mono h1.size)) u1 t1 f1 la ua u2 u3 m.types.length t3 f2 f3 ln lc under.length uc vv
      (fun o n a c cap W' hW' => ?_) d t dd v W ht hd (Below.refl _ _) hv
    have hS' : ∀ b, S b → b < W'.heap.size := fun b hb => Nat.lt_of_lt_of_le (hS b hb) hW'.size
    have hm' := hm.keep (Keeps.below hW' hS)
    have hl' := imSl_keep (Keeps.below hW' hS) hl
    have hun2 : SlAt (fun b => b < W'.heap.size) (StrAt W') 1 under (.slice ua under.length uc) := strSl_keep (S' := fun b => b < W'.heap.size) ⟨fun b hb => hW'.block b hb, fun b hb => Nat.lt_of_lt_of_le hb hW'.size⟩ hun
    have hend : ∀ r, Calls Tryz.prog 61 #[.agg #[.slice u1 u2 u3, .slice t1 m.types.length t3, .slice f1 f2 f3], .slice la ln lc, .string vv, .agg #[.int .i64 4, .string o, .string n, .slice a c cap], .slice ua under.length uc] W' (Tells W' r) → Calls Tryz.prog 61 #[.agg #[.slice u1 u2 u3, .slice t1 m.types.length t3, .slice f1 f2 f3], .slice la ln lc, .string vv, .agg #[.int .i64 4, .string o, .string n, .slice a c cap], .slice ua under.length uc] W' (Tells W r) := fun r h => h.mono fun e w' he => ⟨he.1, hW'.trans (he.2.mono hW'.size)⟩
    apply hend
    cases ho : o.toList.isEmpty with
    | false => rw [refR_imp ho]; exact solved_imp W' S hS' m l u1 t1 f1 la ua a u2 u3 m.types.length t3 f2 f3 ln lc under.length uc c cap vv o n hm' hl' hi ho W' (Below.refl _ _)
    | true =>
      cases hvv : (!vv.toList.isEmpty && sEq n vv) with
      | true => rw [refR_star ho hvv]; exact solved_star W' u1 t1 f1 la ua a u2 u3 m.types.length t3 f2 f3 ln lc under.length uc c cap vv o n ho hvv W' (Below.refl _ _)
      | false =>
        by_cases ha : ownAt m n < m.types.length
        · cases hh : hasS under n with
          | true =>
            rw [refR_plain hvv, refR_round ho ha hh]
            exact solved_round W' S hS' m u1 t1 f1 la ua a u2 u3 m.types.length t3 f2 f3 ln lc under.length uc c cap vv o n hm' ho hvv ha W' (Below.refl _ _) under hun2 hh
          | false =>
            rw [refR_plain hvv, refR_on ho ha hh]
            have hname := own_name ha
            have hsn : n.size ≤ maxLen := by
              have := ident_eight (hty _ (List.getElem_mem ha)).1
              rw [hname] at this
              unfold maxLen; omega
            have hus' : ∀ s ∈ under ++ [n], s.size ≤ maxLen := fun s hs => by
              rcases List.mem_append.1 hs with h | h
              · exact hus s h
              · rw [List.mem_singleton.1 h]; exact hsn
            have hc : met.contains (ownAt m n) = false := by rw [hmt n ha]; exact hh
            have hlt := unmet_lt hc ha
            refine solved_on S m u1 t1 f1 la ua a u2 u3 t3 f2 f3 ln lc uc c cap vv o n W' under _ hS' hm' ho hvv ha hh hn hun2 (by omega) hus' (fun W1 v1 va h1 hv1 hva hpos => ?_)
            obtain ⟨xa, xc, rfl⟩ := hva.is
            exact ih S ⟨#[]⟩ (under ++ [n]) (ownAt m n :: met) xa xc 10 _ 1 v1 W1 (fun b hb => Nat.lt_of_lt_of_le (hS' b hb) h1.size) (hm'.keep (Keeps.below h1 hS')) (imSl_keep (Keeps.below h1 hS') hl') (hmt.next ha) (by omega) (by rw [List.length_append, List.length_singleton]; omega) hus' (fun h => by rw [h] at hpos; exact absurd hpos (by simp)) hva (hty _ (List.getElem_mem ha)).2 (by omega) hv1
        · rw [refR_none' ho hvv ha]
          exact solved_none W' S hS' m u1 t1 f1 la ua a u2 u3 m.types.length t3 f2 f3 ln lc under.length uc c cap vv o n hm' ho hvv ha W' (Below.refl _ _)

set_option maxHeartbeats 2000000 in
theorem solvedOf_any (S : Nat → Prop) (m : Mo) (l : List Im) (vv : ByteArray) (t : Ty) (vm vl vt : Value) (w : World) (hS : ∀ b, S b → b < w.heap.size) (hm : MoIs S w m vm) (hl : SlAt S (ImAt S w) 4 l vl) (hz : ∀ i ∈ l, fcSmall i.face) (hi : imsFault l = 0) (hty : ∀ f ∈ m.types, identOk f.name = true ∧ tyFault f.is 1 = 0) (hl24 : m.types.length ≤ 24) (ht : tyFault t 1 = 0) (hvt : TyIs S w t vt) :
    Calls Tryz.prog 38 #[vm, vl, .string vv, vt] w (Tells w (solveP (refR m l m.types.length vv []) 10 t)) := by
  obtain ⟨vu, vty, vf, rfl, hu, hts, hf⟩ := id hm
  obtain ⟨u1, u2, u3, rfl⟩ := hu.slice
  obtain ⟨t1, t3, rfl⟩ := hts.is
  obtain ⟨f1, f2, f3, rfl⟩ := hf.slice
  obtain ⟨la, ln, lc, rfl⟩ := hl.slice
  obtain ⟨k, fo, na, va, rfl, hcs⟩ := id hvt
  obtain ⟨a, c, cap, rfl⟩ : ∃ a c cap, va = .slice a c cap := by
    obtain ⟨_, _, _, _, hs⟩ := hcs
    exact SlAt.slice hs
  have hb2 : Below w.heap.size w ((w.alloc (.cells #[.slice u1 u2 u3, .slice t1 m.types.length t3, .slice f1 f2 f3] 26)).alloc (.cells #[.int .i64 k, .string fo, .string na, .slice a c cap] 49)) := ((Below.refl _ _).alloc (Nat.le_refl _) _).alloc (by simp) _
  have HB2 := veil hb2
  have HC := veil (solved_any m l u1 t1 f1 la u2 u3 t3 f2 f3 ln lc hz hi hty m.types.length S vv [] [] none 0 10 t 1 _ _ (fun b hb => Nat.lt_of_lt_of_le (hS b hb) hb2.size) (hm.keep (Keeps.below hb2 hS)) (imSl_keep (Keeps.below hb2 hS) hl) (Meets.start m) (by rw [unmet_nil]; exact Nat.le_refl _) (by simpa using hl24) (by intro s hs; cases hs) (fun _ => ⟨rfl, rfl⟩) ⟨none, 0, rfl, ⟨by simp, by simp⟩, Or.inl rfl⟩ ht (by omega) (hvt.keep (Keeps.below hb2 hS)))
  clear hm hl hu hts hf hvt hcs hz hi hty ht hb2
  generalize solveP (refR m l m.types.length vv []) 10 t = r at *
  go_enter Tryz.func38, Tryz.ntmps38
  go_wp2_with fail
  refine HC.out.mono ?_
  rintro e w3 ⟨rfl, hb3⟩
  have HB := veil (HB2.out.trans (hb3.mono HB2.out.size))
  clear hb3
  go_wp2_with fail
  go_ret2
  exact ⟨rfl, HB.out⟩

end Go.Proofs.YtcpnfkeoajeodaaGreatDoor
