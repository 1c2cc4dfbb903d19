/- scullerykeep.Module: a function's name and result are laid into a box. -/
import Derived.Test.YtieoddnaknpmlabGreatDoorJR
namespace Go.Proofs.YtieoddnaknpmlabGreatDoor
open Go.RowKit
set_option maxRecDepth 100000

/-- a new function in block F: its name s, its result t. -/
structure FnNew (W W' : World) (F : Nat) (s : ByteArray) (t : Ty) (k1 : Int) (f1 x1 : ByteArray) (b1 : Option Addr) (m1 c1 : Nat) : Prop where
  box : W'.heap[F]? = some (.cells #[.string s, .string ⟨#[]⟩, .slice none 0 0, .int .i64 k1, .string f1, .string x1, .slice b1 m1 c1, .int .i64 0, .int .i64 0, .string ⟨#[]⟩, .string ⟨#[]⟩, .slice none 0 0] 54 (0, 0))
  lo : W.heap.size ≤ F
  name : identOk s = true ∧ s.size ≤ 8
  res : TyCs (fun b => W.heap.size ≤ b ∧ b < W'.heap.size ∧ b ≠ F) W' t k1 f1 x1 (.slice b1 m1 c1)
  ok : tyFault t 1 = 0
  below : Below W.heap.size W W'

theorem fn_there {w : World} {F : Nat} (h : w.heap[F]? = some (.cells #[.string ⟨#[]⟩, .string ⟨#[]⟩, .slice none 0 0, .int .i64 0, .string ⟨#[]⟩, .string ⟨#[]⟩, .slice none 0 0, .int .i64 0, .int .i64 0, .string ⟨#[]⟩, .string ⟨#[]⟩, .slice none 0 0] 54 (0, 0))) : w.there F 0 12 := by
  intro j hj
  refine ⟨?_, frozen_of_row _ _ _ _ _ h⟩
  rw [cell_of_row _ _ _ _ _ _ h, Nat.zero_add, Array.getElem?_eq_getElem (by simpa using hj)]
  rfl

theorem fn_new {W wz : World} {F : Nat} {s : ByteArray} {t : Ty} {k1 : Int} {f1 x1 : ByteArray} {b1 : Option Addr} {m1 c1 : Nat} (h : wz.heap[F]? = some (.cells #[.string ⟨#[]⟩, .string ⟨#[]⟩, .slice none 0 0, .int .i64 0, .string ⟨#[]⟩, .string ⟨#[]⟩, .slice none 0 0, .int .i64 0, .int .i64 0, .string ⟨#[]⟩, .string ⟨#[]⟩, .slice none 0 0] 54 (0, 0))) (hlo : W.heap.size ≤ F) (hn : identOk s = true ∧ s.size ≤ 8) (hb : Below W.heap.size W wz)
    (hr : TyCs (fun b => W.heap.size ≤ b ∧ b < wz.heap.size ∧ b ≠ F) wz t k1 f1 x1 (.slice b1 m1 c1)) (hok : tyFault t 1 = 0) : FnNew W (wz.setCells F 0 [.string s, .string ⟨#[]⟩, .slice none 0 0, .int .i64 k1, .string f1, .string x1, .slice b1 m1 c1, .int .i64 0, .int .i64 0, .string ⟨#[]⟩, .string ⟨#[]⟩, .slice none 0 0]) F s t k1 f1 x1 b1 m1 c1 := by
  have hsz := heap_size_setCells F [.string s, .string ⟨#[]⟩, .slice none 0 0, .int .i64 k1, .string f1, .string x1, .slice b1 m1 c1, .int .i64 0, .int .i64 0, .string ⟨#[]⟩, .string ⟨#[]⟩, .slice none 0 0] 0 wz
  have hsW := hb.size
  refine ⟨?_, hlo, hn, hr.keep ⟨fun b hb' => World.heap_setCells_other _ _ _ _ hb'.2.1 hb'.2.2, fun b hb' => ⟨hb'.1, by rw [hsz]; exact hb'.2.1, hb'.2.2⟩⟩, hok, ?_⟩
  · rw [block_sets _ h]; simp [putMany]
  · exact hb.trans ⟨World.os_setCells _ _ _ _, tape_setCells _ _ _ _, World.output_setCells _ _ _ _, by rw [hsz]; exact Nat.le_refl _, fun c hc => World.heap_setCells_other _ _ _ _ (by omega) (by omega)⟩

def opsFun : Array Oper := #[{ dst := some 37, op := Op.fieldAddr 58 (Operand.tmp 5) 1, type := 0, pos := "raw.go:98", after := #[], guard := none }, { dst := some 38, op := Op.load 3 (Operand.tmp 37), type := 3, pos := "raw.go:98", after := #[{ on := 0, ground := Ground.data }], guard := none }, { dst := some 39, op := Op.call { callee := Callee.value (Operand.func 21), args := #[Operand.tmp 38], argTypes := #[3] }, type := 9, pos := "raw.go:98", after := #[{ on := 1, ground := Ground.data }], guard := none }, { dst := some 40, op := Op.move (Operand.tmp 6), type := 32, pos := "raw.go:98", after := #[], guard := none }, { dst := some 41, op := Op.move (Operand.tmp 6), type := 32, pos := "raw.go:98", after := #[], guard := none }, { dst := some 42, op := Op.call { callee := Callee.builtin Builtin.len, args := #[Operand.tmp 41], argTypes := #[32] }, type := 3, pos := "raw.go:98", after := #[{ on := 4, ground := Ground.data }], guard := none }, { dst := some 43, op := Op.binOp BinOp.quo 3 (Operand.tmp 42) (Operand.const (Value.int IntKind.i64 2)) 3, type := 3, pos := "raw.go:98", after := #[{ on := 5, ground := Ground.data }], guard := none }, { dst := some 44, op := Op.slice 32 (Operand.tmp 40) (some (Operand.tmp 43)) none none, type := 32, pos := "raw.go:98", after := #[{ on := 3, ground := Ground.data }, { on := 6, ground := Ground.data }], guard := none }, { dst := some 45, op := Op.call { callee := Callee.value (Operand.func 22), args := #[Operand.tmp 44, Operand.const (Value.int IntKind.i64 1)], argTypes := #[32, 3] }, type := 49, pos := "raw.go:98", after := #[{ on := 7, ground := Ground.data }, { on := 2, ground := Ground.chain }], guard := none }, { dst := some 46, op := Op.build 54 #[(0, Operand.tmp 39), (3, Operand.tmp 45)], type := 54, pos := "raw.go:98", after := #[{ on := 2, ground := Ground.data }, { on := 8, ground := Ground.data }], guard := none }, { dst := some 8, op := Op.alloc 54, type := 0, pos := "raw.go:98", after := #[], guard := none }, { dst := none, op := Op.store 54 (Operand.tmp 8) (Operand.tmp 46), type := 0, pos := "raw.go:98", after := #[{ on := 10, ground := Ground.data }, { on := 9, ground := Ground.data }, { on := 8, ground := Ground.chain }, { on := 0, ground := Ground.phase }, { on := 1, ground := Ground.phase }, { on := 2, ground := Ground.phase }, { on := 3, ground := Ground.phase }, { on := 4, ground := Ground.phase }, { on := 5, ground := Ground.phase }, { on := 6, ground := Ground.phase }, { on := 7, ground := Ground.phase }, { on := 8, ground := Ground.phase }, { on := 9, ground := Ground.phase }, { on := 10, ground := Ground.phase }], guard := none }]

set_option maxHeartbeats 2000000 in
theorem fun_region (t0 t1 t2 t3 t4 t7 t8 t9 t10 t11 t12 t13 t14 t15 t16 t17 t18 t19 t20 t21 t22 t23 t24 t25 t26 t27 t28 t29 t30 t31 t32 t33 t34 t35 t36 t37 t38 t39 t40 t41 t42 t43 t44 t45 t46 t47 t48 t49 t50 t51 t52 t53 t54 t55 t56 t57 t58 t59 t60 t61 t62 t63 t64 t65 t66 t67 t68 t69 t70 t71 t72 t73 t74 t75 t76 t77 t78 t79 t80 t81 t82 t83 t84 t85 t86 t87 t88 t89 t90 t91 t92 t93 t94 t95 t96 t97 t98 t99 t100 t101 t102 t103 t104 t105 t106 t107 t108 t109 t110 t111 t112 t113 t114 t115 t116 t117 t118 t119 t120 t121 t122 t123 t124 t125 t126 t127 t128 t129 t130 t131 t132 : Value) (R : Nat) (pa : Option Addr) (pn pc : Nat) (hpn : pn ≤ 9) (qa : Option Addr) (qn qc : Nat) (ra : Int) (hra : wfI ra) (W : World) (hnm : NamesIn W) (hR : W.cell? ⟨R, 1, none⟩ = some (.int .i64 ra)) (hRW : R < W.heap.size)
    (hrun : ∀ W, (Instr.slice 32 (.slice pa pn pc) (some (.int .i64 ((pn : Int) / 2))) none none).run Tryz.prog W = .ok (.slice qa qn qc) W)
    (hty : ∀ W', Below W.heap.size W W' → Calls Tryz.prog 22 #[.slice qa qn qc, .int .i64 1] W' fun e w' => TypeMade W'.heap.size 1 e w' ∧ Below W'.heap.size W' w') :
    Code.wp Tryz.prog (Code.region 9 opsFun true) (Normal fun a w => ∃ F v37 v38 v39 v40 v41 v42 v43 v44 v45 v46, a = { tmps := #[t0, t1, t2, t3, t4, (.pointer (some ⟨R, 0, none⟩)), (.slice pa pn pc), t7, (.pointer (some ⟨F, 0, none⟩)), t9, t10, t11, t12, t13, t14, t15, t16, t17, t18, t19, t20, t21, t22, t23, t24, t25, t26, t27, t28, t29, t30, t31, t32, t33, t34, t35, t36, v37, v38, v39, v40, v41, v42, v43, v44, v45, v46, t47, t48, t49, t50, t51, t52, t53, t54, t55, t56, t57, t58, t59, t60, t61, t62, t63, t64, t65, t66, t67, t68, t69, t70, t71, t72, t73, t74, t75, t76, t77, t78, t79, t80, t81, t82, t83, t84, t85, t86, t87, t88, t89, t90, t91, t92, t93, t94, t95, t96, t97, t98, t99, t100, t101, t102, t103, t104, t105, t106, t107, t108, t109, t110, t111, t112, t113, t114, t115, t116, t117, t118, t119, t120, t121, t122, t123, t124, t125, t126, t127, t128, t129, t130, t131, t132], defers := [] } ∧ ∃ s t k1 f1 x1 b1 m1 c1, FnNew W w F s t k1 f1 x1 b1 m1 c1) { tmps := #[t0, t1, t2, t3, t4, (.pointer (some ⟨R, 0, none⟩)), (.slice pa pn pc), t7, t8, t9, t10, t11, t12, t13, t14, t15, t16, t17, t18, t19, t20, t21, t22, t23, t24, t25, t26, t27, t28, t29, t30, t31, t32, t33, t34, t35, t36, t37, t38, t39, t40, t41, t42, t43, t44, t45, t46, t47, t48, t49, t50, t51, t52, t53, t54, t55, t56, t57, t58, t59, t60, t61, t62, t63, t64, t65, t66, t67, t68, t69, t70, t71, t72, t73, t74, t75, t76, t77, t78, t79, t80, t81, t82, t83, t84, t85, t86, t87, t88, t89, t90, t91, t92, t93, t94, t95, t96, t97, t98, t99, t100, t101, t102, t103, t104, t105, t106, t107, t108, t109, t110, t111, t112, t113, t114, t115, t116, t117, t118, t119, t120, t121, t122, t123, t124, t125, t126, t127, t128, t129, t130, t131, t132], defers := [] } W := by
  have hS0 : W.drew.cell? ⟨R, 1, none⟩ = some (.int .i64 ra) := hR
  have hSa : (W.alloc (.cells #[.string ⟨#[]⟩, .string ⟨#[]⟩, .slice none 0 0, .int .i64 0, .string ⟨#[]⟩, .string ⟨#[]⟩, .slice none 0 0, .int .i64 0, .int .i64 0, .string ⟨#[]⟩, .string ⟨#[]⟩, .slice none 0 0] 54)).drew.cell? ⟨R, 1, none⟩ = some (.int .i64 ra) := by
    show (W.alloc _).cell? _ = _
    rw [World.cell?_alloc_old _ _ _ (by show R ≠ _; omega)]; exact hR
  have HTy := veil hty
  have HNd : Hid (NamesIn W.drew) := hnm.keep ((Below.refl _ _).drew)
  have HBd : Hid (Below W.heap.size W W.drew) := (Below.refl _ _).drew
  have HBa : Hid (Below W.heap.size W (W.alloc (.cells #[.string ⟨#[]⟩, .string ⟨#[]⟩, .slice none 0 0, .int .i64 0, .string ⟨#[]⟩, .string ⟨#[]⟩, .slice none 0 0, .int .i64 0, .int .i64 0, .string ⟨#[]⟩, .string ⟨#[]⟩, .slice none 0 0] 54)).drew) := ((Below.refl _ _).alloc (Nat.le_refl _) _).drew
  have HNa : Hid (NamesIn (W.alloc (.cells #[.string ⟨#[]⟩, .string ⟨#[]⟩, .slice none 0 0, .int .i64 0, .string ⟨#[]⟩, .string ⟨#[]⟩, .slice none 0 0, .int .i64 0, .int .i64 0, .string ⟨#[]⟩, .string ⟨#[]⟩, .slice none 0 0] 54)).drew) := hnm.keep HBa.out
  have HHa : Hid ((W.alloc (.cells #[.string ⟨#[]⟩, .string ⟨#[]⟩, .slice none 0 0, .int .i64 0, .string ⟨#[]⟩, .string ⟨#[]⟩, .slice none 0 0, .int .i64 0, .int .i64 0, .string ⟨#[]⟩, .string ⟨#[]⟩, .slice none 0 0] 54)).drew.heap.size = W.heap.size + 1) := by show (W.alloc _).heap.size = _; simp
  have HFa : Hid ((W.alloc (.cells #[.string ⟨#[]⟩, .string ⟨#[]⟩, .slice none 0 0, .int .i64 0, .string ⟨#[]⟩, .string ⟨#[]⟩, .slice none 0 0, .int .i64 0, .int .i64 0, .string ⟨#[]⟩, .string ⟨#[]⟩, .slice none 0 0] 54)).drew.heap[W.heap.size]? = some (.cells #[.string ⟨#[]⟩, .string ⟨#[]⟩, .slice none 0 0, .int .i64 0, .string ⟨#[]⟩, .string ⟨#[]⟩, .slice none 0 0, .int .i64 0, .int .i64 0, .string ⟨#[]⟩, .string ⟨#[]⟩, .slice none 0 0] 54 (0, 0))) := heap_alloc_new W _
  have hwrap : IntKind.i64.wrap ((pn : Int) / 2) = (pn : Int) / 2 := by
    have : (pn : Int) / 2 = 0 ∨ (pn : Int) / 2 = 1 ∨ (pn : Int) / 2 = 2 ∨ (pn : Int) / 2 = 3 ∨ (pn : Int) / 2 = 4 := by omega
    rcases this with h | h | h | h | h <;> rw [h] <;> rfl
  clear hnm hR hty
  unfold opsFun
  refine wp_region_held_drew (S := fun w' => w'.cell? ⟨R, 1, none⟩ = some (.int .i64 ra)) (by kernel_rfl) hS0 (fun hHeld => ?_)
  clear hHeld
  refine any_take 0 rfl rfl (by kernel_rfl) (by kernel_rfl) (by kernel_rfl) (fun _ _ _ h => h) (v := .pointer (some ⟨R, 1, none⟩)) (Or.inl ⟨by rfl, fun w hw => by go_simp⟩) hS0 ?_
  refine any_take 1 rfl rfl (by kernel_rfl) (by kernel_rfl) (by kernel_rfl) (fun _ _ _ h => h) (v := .int .i64 ra) (Or.inl ⟨by rfl, fun w hw => by have hw2 : w.cell? ⟨R, 1, none⟩ = some (.int .i64 ra) := hw; go_simp⟩) hS0 ?_
  refine any_take 3 rfl rfl (by kernel_rfl) (by kernel_rfl) (by kernel_rfl) (fun _ _ _ h => h) (v := .slice pa pn pc) (Or.inl ⟨by rfl, fun w hw => by go_simp⟩) hS0 ?_
  refine any_take 4 rfl rfl (by kernel_rfl) (by kernel_rfl) (by kernel_rfl) (fun _ _ _ h => h) (v := .slice pa pn pc) (Or.inl ⟨by rfl, fun w hw => by go_simp⟩) hS0 ?_
  refine any_take 5 rfl rfl (by kernel_rfl) (by kernel_rfl) (by kernel_rfl) (fun _ _ _ h => h) (v := .int .i64 pn) (Or.inl ⟨by rfl, fun w hw => by go_simp⟩) hS0 ?_
  refine any_take 6 rfl rfl (by kernel_rfl) (by kernel_rfl) (by kernel_rfl) (fun _ _ _ h => h) (v := .int .i64 ((pn : Int) / 2)) (Or.inl ⟨by rfl, fun w hw => by go_simp⟩) hS0 ?_
  refine any_take 7 rfl rfl (by kernel_rfl) (by kernel_rfl) (by kernel_rfl) (fun _ _ _ h => h) (v := .slice qa qn qc) (Or.inl ⟨by rfl, fun w hw => by go_simp⟩) hS0 ?_
  refine any_two 2 10 (by kernel_rfl) rfl rfl rfl rfl (fun K hK => ?_) (fun K hK => ?_)
  · have HK := veil hK
    clear hK
    go_simp
    refine (name_raw _ hra _ HNd.out).mono ?_
    rintro e w3 ⟨s, rfl, hs, hs8, rfl⟩
    have HI := veil hs
    clear hs
    go_simp
    refine HK.out _ _ hS0 ?_
    clear HK K
    refine any_two 8 10 (by kernel_rfl) rfl rfl rfl rfl (fun K hK => ?_) (fun K hK => ?_)
    · have HK := veil hK
      clear hK
      go_simp
      refine (HTy.out _ HBd.out).mono ?_
      rintro e w3 ⟨⟨t, k1, f1, x1, b1, m1, c1, rfl, hcs, hft⟩, hb3⟩
      have hb13 : Below W.heap.size W w3 := HBd.out.trans (hb3.mono HBd.out.size)
      have HCs := veil hcs
      have HFt := veil hft
      have HB3 := veil hb3
      have HB13 := veil hb13
      have hsz3 := hb13.size
      have hS1 : w3.cell? ⟨R, 1, none⟩ = some (.int .i64 ra) := (hb13.cell (p := ⟨R, 1, none⟩) hRW).trans hS0
      clear hcs hft hb3 hb13
      go_simp
      refine HK.out _ _ hS1 ?_
      clear HK K
      refine any_take 9 rfl rfl (by kernel_rfl) (by kernel_rfl) (by kernel_rfl) (fun _ _ _ h => h) (v := .agg #[.string s, .string ⟨#[]⟩, .slice none 0 0, .int .i64 k1, .string f1, .string x1, .slice b1 m1 c1, .int .i64 0, .int .i64 0, .string ⟨#[]⟩, .string ⟨#[]⟩, .slice none 0 0]) (Or.inl ⟨by rfl, fun w hw => by go_simp⟩) hS1 ?_
      refine any_one 10 (by kernel_rfl) rfl rfl (fun K hK => ?_)
      have hS2 : (w3.alloc (.cells #[.string ⟨#[]⟩, .string ⟨#[]⟩, .slice none 0 0, .int .i64 0, .string ⟨#[]⟩, .string ⟨#[]⟩, .slice none 0 0, .int .i64 0, .int .i64 0, .string ⟨#[]⟩, .string ⟨#[]⟩, .slice none 0 0] 54)).cell? ⟨R, 1, none⟩ = some (.int .i64 ra) := by
        rw [World.cell?_alloc_old _ _ _ (by show R ≠ _; omega)]; exact hS1
      have HK := veil hK
      clear hK
      go_simp
      refine HK.out _ _ hS2 ?_
      clear HK K
      have hF : (w3.alloc (.cells #[.string ⟨#[]⟩, .string ⟨#[]⟩, .slice none 0 0, .int .i64 0, .string ⟨#[]⟩, .string ⟨#[]⟩, .slice none 0 0, .int .i64 0, .int .i64 0, .string ⟨#[]⟩, .string ⟨#[]⟩, .slice none 0 0] 54)).heap[w3.heap.size]? = some (.cells #[.string ⟨#[]⟩, .string ⟨#[]⟩, .slice none 0 0, .int .i64 0, .string ⟨#[]⟩, .string ⟨#[]⟩, .slice none 0 0, .int .i64 0, .int .i64 0, .string ⟨#[]⟩, .string ⟨#[]⟩, .slice none 0 0] 54 (0, 0)) := heap_alloc_new w3 _
      have HNew := veil (fn_new (s := s) hF hsz3 ⟨HI.out, hs8⟩ (HB13.out.alloc hsz3 _) (HCs.out.keep ⟨fun b hb => heap_alloc_old _ _ hb.2, fun b hb => ⟨hb.1, by have := hb.2; simp; omega, by have := hb.2; omega⟩⟩) HFt.out)
      refine any_one 11 (by kernel_rfl) rfl rfl (fun K hK => ?_)
      refine wp_store_mid _ _ _ rfl w3.heap.size 0 #[.string s, .string ⟨#[]⟩, .slice none 0 0, .int .i64 k1, .string f1, .string x1, .slice b1 m1 c1, .int .i64 0, .int .i64 0, .string ⟨#[]⟩, .string ⟨#[]⟩, .slice none 0 0] rfl rfl (fn_there hF) fuT_size (by simp [Value.oneCell']) ?_
      refine hK _ _ ?_ (wpAnyH_done (by kernel_rfl) ⟨_, _, _, _, _, _, _, _, _, _, _, rfl, _, _, _, _, _, _, _, _, HNew.out⟩ _)
      show World.cell? _ _ = _
      rw [World.cell?_setCells_out _ _ _ _ _ (fun h => absurd h (by show R ≠ _; omega))]
      exact hS2
    · have HK := veil hK
      clear hK
      go_simp
      refine HK.out _ _ hSa ?_
      clear HK K
      refine any_one 8 (by kernel_rfl) rfl rfl (fun K hK => ?_)
      have HK := veil hK
      clear hK
      go_simp
      refine (HTy.out _ HBa.out).mono ?_
      rintro e w3 ⟨⟨t, k1, f1, x1, b1, m1, c1, rfl, hcs, hft⟩, hb3⟩
      have hb13 : Below W.heap.size W w3 := HBa.out.trans (hb3.mono HBa.out.size)
      have HCs := veil hcs
      have HFt := veil hft
      have HB3 := veil hb3
      have HB13 := veil hb13
      have hsz3 := hb13.size
      have hS1 : w3.cell? ⟨R, 1, none⟩ = some (.int .i64 ra) := (hb13.cell (p := ⟨R, 1, none⟩) hRW).trans hS0
      clear hcs hft hb3 hb13
      go_simp
      refine HK.out _ _ hS1 ?_
      clear HK K
      refine any_take 9 rfl rfl (by kernel_rfl) (by kernel_rfl) (by kernel_rfl) (fun _ _ _ h => h) (v := .agg #[.string s, .string ⟨#[]⟩, .slice none 0 0, .int .i64 k1, .string f1, .string x1, .slice b1 m1 c1, .int .i64 0, .int .i64 0, .string ⟨#[]⟩, .string ⟨#[]⟩, .slice none 0 0]) (Or.inl ⟨by rfl, fun w hw => by go_simp⟩) hS1 ?_
      have hF : w3.heap[W.heap.size]? = some (.cells #[.string ⟨#[]⟩, .string ⟨#[]⟩, .slice none 0 0, .int .i64 0, .string ⟨#[]⟩, .string ⟨#[]⟩, .slice none 0 0, .int .i64 0, .int .i64 0, .string ⟨#[]⟩, .string ⟨#[]⟩, .slice none 0 0] 54 (0, 0)) := (HB3.out.block W.heap.size (by rw [HHa.out]; omega)).trans HFa.out
      have HNew := veil (fn_new (s := s) hF (Nat.le_refl _) ⟨HI.out, hs8⟩ HB13.out (HCs.out.keep ⟨fun _ _ => rfl, fun b hb => ⟨by have h1 := hb.1; rw [HHa.out] at h1; omega, hb.2, by have h1 := hb.1; rw [HHa.out] at h1; omega⟩⟩) HFt.out)
      refine any_one 11 (by kernel_rfl) rfl rfl (fun K hK => ?_)
      refine wp_store_mid _ _ _ rfl W.heap.size 0 #[.string s, .string ⟨#[]⟩, .slice none 0 0, .int .i64 k1, .string f1, .string x1, .slice b1 m1 c1, .int .i64 0, .int .i64 0, .string ⟨#[]⟩, .string ⟨#[]⟩, .slice none 0 0] rfl rfl (fn_there hF) fuT_size (by simp [Value.oneCell']) ?_
      refine hK _ _ ?_ (wpAnyH_done (by kernel_rfl) ⟨_, _, _, _, _, _, _, _, _, _, _, rfl, _, _, _, _, _, _, _, _, HNew.out⟩ _)
      show World.cell? _ _ = _
      rw [World.cell?_setCells_out _ _ _ _ _ (fun h => absurd h (by show R ≠ _; omega))]
      exact hS1
  · have HK := veil hK
    clear hK
    go_simp
    refine HK.out _ _ hSa ?_
    clear HK K
    refine any_one 2 (by kernel_rfl) rfl rfl (fun K hK => ?_)
    have HK := veil hK
    clear hK
    go_simp
    refine (name_raw _ hra _ HNa.out).mono ?_
    rintro e w3 ⟨s, rfl, hs, hs8, rfl⟩
    have HI := veil hs
    clear hs
    go_simp
    refine HK.out _ _ hSa ?_
    clear HK K
    refine any_one 8 (by kernel_rfl) rfl rfl (fun K hK => ?_)
    have HK := veil hK
    clear hK
    go_simp
    refine (HTy.out _ HBa.out).mono ?_
    rintro e w3 ⟨⟨t, k1, f1, x1, b1, m1, c1, rfl, hcs, hft⟩, hb3⟩
    have hb13 : Below W.heap.size W w3 := HBa.out.trans (hb3.mono HBa.out.size)
    have HCs := veil hcs
    have HFt := veil hft
    have HB3 := veil hb3
    have HB13 := veil hb13
    have hsz3 := hb13.size
    have hS1 : w3.cell? ⟨R, 1, none⟩ = some (.int .i64 ra) := (hb13.cell (p := ⟨R, 1, none⟩) hRW).trans hS0
    clear hcs hft hb3 hb13
    go_simp
    refine HK.out _ _ hS1 ?_
    clear HK K
    refine any_take 9 rfl rfl (by kernel_rfl) (by kernel_rfl) (by kernel_rfl) (fun _ _ _ h => h) (v := .agg #[.string s, .string ⟨#[]⟩, .slice none 0 0, .int .i64 k1, .string f1, .string x1, .slice b1 m1 c1, .int .i64 0, .int .i64 0, .string ⟨#[]⟩, .string ⟨#[]⟩, .slice none 0 0]) (Or.inl ⟨by rfl, fun w hw => by go_simp⟩) hS1 ?_
    have hF : w3.heap[W.heap.size]? = some (.cells #[.string ⟨#[]⟩, .string ⟨#[]⟩, .slice none 0 0, .int .i64 0, .string ⟨#[]⟩, .string ⟨#[]⟩, .slice none 0 0, .int .i64 0, .int .i64 0, .string ⟨#[]⟩, .string ⟨#[]⟩, .slice none 0 0] 54 (0, 0)) := (HB3.out.block W.heap.size (by rw [HHa.out]; omega)).trans HFa.out
    have HNew := veil (fn_new (s := s) hF (Nat.le_refl _) ⟨HI.out, hs8⟩ HB13.out (HCs.out.keep ⟨fun _ _ => rfl, fun b hb => ⟨by have h1 := hb.1; rw [HHa.out] at h1; omega, hb.2, by have h1 := hb.1; rw [HHa.out] at h1; omega⟩⟩) HFt.out)
    refine any_one 11 (by kernel_rfl) rfl rfl (fun K hK => ?_)
    refine wp_store_mid _ _ _ rfl W.heap.size 0 #[.string s, .string ⟨#[]⟩, .slice none 0 0, .int .i64 k1, .string f1, .string x1, .slice b1 m1 c1, .int .i64 0, .int .i64 0, .string ⟨#[]⟩, .string ⟨#[]⟩, .slice none 0 0] rfl rfl (fn_there hF) fuT_size (by simp [Value.oneCell']) ?_
    refine hK _ _ ?_ (wpAnyH_done (by kernel_rfl) ⟨_, _, _, _, _, _, _, _, _, _, _, rfl, _, _, _, _, _, _, _, _, HNew.out⟩ _)
    show World.cell? _ _ = _
    rw [World.cell?_setCells_out _ _ _ _ _ (fun h => absurd h (by show R ≠ _; omega))]
    exact hS1

end Go.Proofs.YtieoddnaknpmlabGreatDoor

/- A function's parameters grow in scullerykeep.Module, in plain words. -/
namespace Go.Proofs.YtieoddnaknpmlabGreatDoor
open Go.RowKit
set_option maxRecDepth 100000

/-- the cells of a function that has no body yet. -/
def fnCells (nm var : ByteArray) (pv : Value) (k1 : Int) (f1 x1 : ByteArray) (rv : Value) : Array Value := #[.string nm, .string var, pv, .int .i64 k1, .string f1, .string x1, rv, .int .i64 0, .int .i64 0, .string ⟨#[]⟩, .string ⟨#[]⟩, .slice none 0 0]

/-- the function in block F: its parameters so far; since Wb nothing below base has turned but block F. -/
structure FnAt (base F : Nat) (nm var : ByteArray) (k1 : Int) (f1 x1 : ByteArray) (rv : Value) (ps : List Fd) (pv : Value) (ys : List Value) (Wb W : World) : Prop where
  box : W.heap[F]? = some (.cells (fnCells nm var pv k1 f1 x1 rv) 54 (0, 0))
  hF : F < base
  own : W.ownsRow base 63 5 pv ps.length ys
  items : ∀ j (hj : j < ps.length), ∃ cs, cs.length = 5 ∧ (∀ t, t < 5 → ys[j * 5 + t]? = cs[t]?) ∧ FdC (Parts base pv W) W ps[j] cs
  ok : ∀ p ∈ ps, (identOk p.name = true ∧ p.name.size ≤ 8) ∧ tyFault p.is 1 = 0
  same : ∀ c, c < base → c ≠ F → W.heap[c]? = Wb.heap[c]?
  still : W.os = Wb.os ∧ W.tape = Wb.tape ∧ W.output = Wb.output
  size : Wb.heap.size ≤ W.heap.size
  room : base ≤ W.heap.size

theorem fn_grown {base F : Nat} {nm var : ByteArray} {k1 : Int} {f1 x1 : ByteArray} {rv : Value} {ps : List Fd} {pv : Value} {ys cs : List Value} {Wb W W5 w1 : World} {g cap : Nat} {x : Fd} (h : FnAt base F nm var k1 f1 x1 rv ps pv ys Wb W) (hb5 : Below W.heap.size W W5) (hg : W5.grownBy w1 pv.ownBlock)
    (hown1 : w1.ownsRow base 63 5 (.slice (some ⟨g, 0, none⟩) (ps.length + 1) cap) (ps.length + 1) (ys ++ cs)) (hat : pv.ownBlock = some g ∨ g = W5.heap.size) (hcs : cs.length = 5) (hx : FdC (Parts base pv W) W x cs) (hok : (identOk x.name = true ∧ x.name.size ≤ 8) ∧ tyFault x.is 1 = 0) :
    FnAt base F nm var k1 f1 x1 rv (ps ++ [x]) (.slice (some ⟨g, 0, none⟩) (ps.length + 1) cap) (ys ++ cs) Wb (w1.setCell ⟨F, 2, none⟩ (.slice (some ⟨g, 0, none⟩) (ps.length + 1) cap)) := by
  have e : (ps ++ [x]).length = ps.length + 1 := by simp
  have hyl : ys.length = ps.length * 5 := h.own.1
  have hroom := h.room
  have hFb := h.hF
  have hs5 := hb5.size
  have hs1 := hg.size
  have hin : ∀ b, pv.ownBlock = some b → base ≤ b ∧ b < W.heap.size := fun b hb => ownsRow_in h.own b hb
  have hX1 : w1.heap[F]? = some (.cells (fnCells nm var pv k1 f1 x1 rv) 54 (0, 0)) := (hg.block F (by omega) (fun e => by have := hin F e.symm; omega)).trans ((hb5.block F (by omega)).trans h.box)
  have hsz : (w1.setCell ⟨F, 2, none⟩ (.slice (some ⟨g, 0, none⟩) (ps.length + 1) cap)).heap.size = w1.heap.size := heap_size_setCell _ _ _
  have hold : ∀ b, b < W.heap.size → b ≠ F → pv.ownBlock ≠ some b → (w1.setCell ⟨F, 2, none⟩ (.slice (some ⟨g, 0, none⟩) (ps.length + 1) cap)).heap[b]? = W.heap[b]? := fun b hb hne hnb => by
    rw [Below.heap_setCell _ _ _ _ hne, hg.block b (by omega) (fun e => hnb e.symm), hb5.block b hb]
  have hk : Keeps (Parts base pv W) (Parts base (.slice (some ⟨g, 0, none⟩) (ps.length + 1) cap) (w1.setCell ⟨F, 2, none⟩ (.slice (some ⟨g, 0, none⟩) (ps.length + 1) cap))) W (w1.setCell ⟨F, 2, none⟩ (.slice (some ⟨g, 0, none⟩) (ps.length + 1) cap)) :=
    ⟨fun b hb => by
      obtain ⟨h1, h2, h3⟩ := hb
      exact hold b h2 (by omega) h3, fun b hb => by
      obtain ⟨h1, h2, h3⟩ := hb
      refine ⟨h1, by rw [hsz]; omega, fun e => ?_⟩
      have : b = g := by simpa [Value.ownBlock] using e.symm
      subst this
      rcases hat with h4 | h4
      · exact h3 h4
      · omega⟩
  refine ⟨?_, hFb, ?_, ?_, ?_, ?_, ?_, by rw [hsz]; have := h.size; omega, by rw [hsz]; omega⟩
  · rw [block_set hX1]; simp [fnCells]
  · rw [e]; exact ownsRow_setCell_below hown1 (a := ⟨F, 2, none⟩) hFb _
  · intro j hj
    by_cases hjx : j < ps.length
    · obtain ⟨c, h1, h2, h3⟩ := h.items j hjx
      refine ⟨c, h1, fun t ht => ?_, ?_⟩
      · rw [List.getElem?_append_left (by omega)]
        exact h2 t ht
      · rw [List.getElem_append_left hjx]
        exact fdC_keep hk h3
    · have hje : j = ps.length := by omega
      subst hje
      refine ⟨cs, hcs, fun t _ => ?_, ?_⟩
      · rw [List.getElem?_append_right (by omega), hyl]
        congr 1
        omega
      · rw [List.getElem_append_right (Nat.le_refl _)]
        simp only [Nat.sub_self, List.getElem_cons_zero]
        exact fdC_keep hk hx
  · intro y hy
    rcases List.mem_append.1 hy with h1 | h1
    · exact h.ok y h1
    · rw [List.mem_singleton.1 h1]; exact hok
  · intro c hc hne
    rw [hold c (by omega) hne (fun e => by have := hin c e; omega)]
    exact h.same c hc hne
  · obtain ⟨a1, a2, a3⟩ := h.still
    exact ⟨hg.os.trans (hb5.os.trans a1), hg.tape.trans (hb5.tape.trans a2), hg.output.trans (hb5.output.trans a3)⟩

/-- the parameters as scullerykeep.Expr wants them. -/
theorem FnAt.params {base F : Nat} {nm var : ByteArray} {k1 : Int} {f1 x1 : ByteArray} {rv : Value} {ps : List Fd} {pv : Value} {ys : List Value} {Wb W : World} (h : FnAt base F nm var k1 f1 x1 rv ps pv ys Wb W) (hl : ps.length ≤ 8) : SlAt (Fresh base W) (FdAt (Fresh base W) W) 5 ps pv := by
  rcases h.own.2 with ⟨h1, h2⟩ | ⟨g, cap, cur, h1, hb, hg, hc, hm, _⟩
  · have hx0 : ps = [] := List.eq_nil_of_length_eq_zero h2
    subst hx0
    subst h1
    exact ⟨none, 0, rfl, ⟨by simp, by simp⟩, Or.inl rfl⟩
  · subst h1
    refine ⟨_, cap, rfl, ⟨by unfold maxLen; omega, hc⟩, Or.inr ⟨g, 0, rfl, ⟨hb, heap_lt hg⟩, RowAt.mk fun j hj => ?_⟩⟩
    obtain ⟨cs, h3, h4, h5⟩ := h.items j hj
    refine fdC_at h3 (fdC_keep ⟨fun _ _ => rfl, fun b hb' => ⟨hb'.1, hb'.2.1⟩⟩ h5) (fun t u hu => ?_)
    have ht : t < 5 := by rw [← h3]; exact (List.getElem?_eq_some_iff.1 hu).1
    rw [Nat.zero_add]
    exact own_cell h.own _ _ ((h4 t ht).trans hu)

end Go.Proofs.YtieoddnaknpmlabGreatDoor

/- A function's parameters grow in scullerykeep.Module: the region. -/
namespace Go.Proofs.YtieoddnaknpmlabGreatDoor
open Go.RowKit
set_option maxRecDepth 100000

theorem tyT_size4 : (Tryz.prog.info? 49).map (·.size) = some 4 := by kernel_rfl
theorem two_names (j : Nat) (hj : j < 2) (W : World) : ∃ s : ByteArray, (W.alloc (.cells #[.string ⟨#[112]⟩, .string ⟨#[113]⟩] 9)).drew.cell? ⟨W.heap.size, j, none⟩ = some (.string s) ∧ identOk s = true ∧ s.size ≤ 8 := by
  have hc : (W.alloc (.cells #[.string ⟨#[112]⟩, .string ⟨#[113]⟩] 9)).drew.cell? ⟨W.heap.size, j, none⟩ = (#[.string ⟨#[112]⟩, .string ⟨#[113]⟩] : Array Value)[j]? := by
    show (W.alloc _).cell? _ = _
    rw [World.cell?_alloc_new]
  have : j = 0 ∨ j = 1 := by omega
  rcases this with rfl | rfl
  · exact ⟨⟨#[112]⟩, by rw [hc]; simp, by decide +kernel, by decide⟩
  · exact ⟨⟨#[113]⟩, by rw [hc]; simp, by decide +kernel, by decide⟩

def opsPar : Array Oper := #[{ dst := some 72, op := Op.fieldAddr 54 (Operand.tmp 8) 2, type := 0, pos := "raw.go:107", after := #[], guard := none }, { dst := some 73, op := Op.load 23 (Operand.tmp 72), type := 23, pos := "raw.go:107", after := #[{ on := 0, ground := Ground.data }], guard := none }, { dst := some 74, op := Op.buildSlice 22 2 #[(0, Operand.const (Value.string { data := #[112] })), (1, Operand.const (Value.string { data := #[113] }))], type := 22, pos := "raw.go:107", after := #[], guard := none }, { dst := some 75, op := Op.move (Operand.tmp 9), type := 3, pos := "raw.go:107", after := #[], guard := none }, { dst := some 76, op := Op.indexAddr 22 (Operand.tmp 74) (Operand.tmp 75), type := 0, pos := "raw.go:107", after := #[{ on := 2, ground := Ground.data }, { on := 3, ground := Ground.data }], guard := none }, { dst := some 77, op := Op.load 9 (Operand.tmp 76), type := 9, pos := "raw.go:107", after := #[{ on := 4, ground := Ground.data }], guard := none }, { dst := some 78, op := Op.load 49 (Operand.tmp 10), type := 49, pos := "raw.go:107", after := #[], guard := none }, { dst := some 79, op := Op.build 63 #[(0, Operand.tmp 77), (1, Operand.tmp 78)], type := 63, pos := "raw.go:107", after := #[{ on := 5, ground := Ground.data }, { on := 6, ground := Ground.data }], guard := none }, { dst := some 80, op := Op.buildSlice 23 1 #[(0, Operand.tmp 79)], type := 23, pos := "raw.go:107", after := #[{ on := 7, ground := Ground.data }], guard := none }, { dst := some 81, op := Op.call { callee := Callee.builtin Builtin.append, args := #[Operand.tmp 73, Operand.tmp 80], argTypes := #[23, 23] }, type := 23, pos := "raw.go:107", after := #[{ on := 1, ground := Ground.data }, { on := 8, ground := Ground.data }], guard := none }, { dst := some 82, op := Op.fieldAddr 54 (Operand.tmp 8) 2, type := 0, pos := "raw.go:107", after := #[{ on := 0, ground := Ground.phase }, { on := 1, ground := Ground.phase }, { on := 2, ground := Ground.phase }, { on := 3, ground := Ground.phase }, { on := 4, ground := Ground.phase }, { on := 5, ground := Ground.phase }, { on := 6, ground := Ground.phase }, { on := 7, ground := Ground.phase }, { on := 8, ground := Ground.phase }, { on := 9, ground := Ground.phase }], guard := none }, { dst := none, op := Op.store 23 (Operand.tmp 82) (Operand.tmp 81), type := 0, pos := "raw.go:107", after := #[{ on := 10, ground := Ground.data }, { on := 9, ground := Ground.data }, { on := 9, ground := Ground.chain }, { on := 0, ground := Ground.phase }, { on := 1, ground := Ground.phase }, { on := 2, ground := Ground.phase }, { on := 3, ground := Ground.phase }, { on := 4, ground := Ground.phase }, { on := 5, ground := Ground.phase }, { on := 6, ground := Ground.phase }, { on := 7, ground := Ground.phase }, { on := 8, ground := Ground.phase }, { on := 9, ground := Ground.phase }], guard := none }]

set_option maxHeartbeats 2000000 in
theorem param_region (t0 t1 t2 t3 t4 t5 t6 t7 t11 t12 t13 t14 t15 t16 t17 t18 t19 t20 t21 t22 t23 t24 t25 t26 t27 t28 t29 t30 t31 t32 t33 t34 t35 t36 t37 t38 t39 t40 t41 t42 t43 t44 t45 t46 t47 t48 t49 t50 t51 t52 t53 t54 t55 t56 t57 t58 t59 t60 t61 t62 t63 t64 t65 t66 t67 t68 t69 t70 t71 t72 t73 t74 t75 t76 t77 t78 t79 t80 t81 t82 t83 t84 t85 t86 t87 t88 t89 t90 t91 t92 t93 t94 t95 t96 t97 t98 t99 t100 t101 t102 t103 t104 t105 t106 t107 t108 t109 t110 t111 t112 t113 t114 t115 t116 t117 t118 t119 t120 t121 t122 t123 t124 t125 t126 t127 t128 t129 t130 t131 t132 : Value) (j : Nat) (hj : j < 2) (F I base : Nat) (nm var : ByteArray) (k1 : Int) (f1 x1 : ByteArray) (rv : Value) (ps : List Fd) (hps : ps.length ≤ 8) (pv : Value) (ys : List Value) (Wb W : World) (hat : FnAt base F nm var k1 f1 x1 rv ps pv ys Wb W)
    (t : Ty) (k2 : Int) (f2 x2 : ByteArray) (a2 : Option Addr) (m2 c2 : Nat) (hty : TyCs (Parts base pv W) W t k2 f2 x2 (.slice a2 m2 c2)) (hok : tyFault t 1 = 0) (hI : W.rangeAt I 0 [.int .i64 k2, .string f2, .string x2, .slice a2 m2 c2]) (hIW : I < W.heap.size) (hIF : I ≠ F) (hIo : pv.ownBlock ≠ some I) :
    Code.wp Tryz.prog (Code.region 18 opsPar true) (Normal fun a w => ∃ v72 v73 v74 v75 v76 v77 v78 v79 v80 v81 v82, a = { tmps := #[t0, t1, t2, t3, t4, t5, t6, t7, (.pointer (some ⟨F, 0, none⟩)), (.int .i64 j), (.pointer (some ⟨I, 0, none⟩)), t11, t12, t13, t14, t15, t16, t17, t18, t19, t20, t21, t22, t23, t24, t25, t26, t27, t28, t29, t30, t31, t32, t33, t34, t35, t36, t37, t38, t39, t40, t41, t42, t43, t44, t45, t46, t47, t48, t49, t50, t51, t52, t53, t54, t55, t56, t57, t58, t59, t60, t61, t62, t63, t64, t65, t66, t67, t68, t69, t70, t71, v72, v73, v74, v75, v76, v77, v78, v79, v80, v81, v82, t83, t84, t85, t86, t87, t88, t89, t90, t91, t92, t93, t94, t95, t96, t97, t98, t99, t100, t101, t102, t103, t104, t105, t106, t107, t108, t109, t110, t111, t112, t113, t114, t115, t116, t117, t118, t119, t120, t121, t122, t123, t124, t125, t126, t127, t128, t129, t130, t131, t132], defers := [] } ∧ ∃ x v' ys', FnAt base F nm var k1 f1 x1 rv (ps ++ [x]) v' ys' Wb w) { tmps := #[t0, t1, t2, t3, t4, t5, t6, t7, (.pointer (some ⟨F, 0, none⟩)), (.int .i64 j), (.pointer (some ⟨I, 0, none⟩)), t11, t12, t13, t14, t15, t16, t17, t18, t19, t20, t21, t22, t23, t24, t25, t26, t27, t28, t29, t30, t31, t32, t33, t34, t35, t36, t37, t38, t39, t40, t41, t42, t43, t44, t45, t46, t47, t48, t49, t50, t51, t52, t53, t54, t55, t56, t57, t58, t59, t60, t61, t62, t63, t64, t65, t66, t67, t68, t69, t70, t71, t72, t73, t74, t75, t76, t77, t78, t79, t80, t81, t82, t83, t84, t85, t86, t87, t88, t89, t90, t91, t92, t93, t94, t95, t96, t97, t98, t99, t100, t101, t102, t103, t104, t105, t106, t107, t108, t109, t110, t111, t112, t113, t114, t115, t116, t117, t118, t119, t120, t121, t122, t123, t124, t125, t126, t127, t128, t129, t130, t131, t132], defers := [] } W := by
  have hFb := hat.hF
  have hroom := hat.room
  have hFW : F < W.heap.size := by omega
  have hj2 : (j : Int) < 2 := by omega
  obtain ⟨s, hjc, hsI, hs8⟩ := two_names j hj W
  have HsI := veil hsI
  have hc0 : W.drew.cell? ⟨F, 2, none⟩ = some pv := by
    show W.cell? _ = _
    rw [cell_of_row _ _ _ _ _ _ hat.box]; rfl
  have hca : (W.alloc (.cells #[.string ⟨#[112]⟩, .string ⟨#[113]⟩] 9)).drew.cell? ⟨F, 2, none⟩ = some pv := by
    show (W.alloc _).cell? _ = _
    rw [World.cell?_alloc_old _ _ _ (by show F ≠ _; omega)]; exact hc0
  have hcb : ((W.alloc (.cells #[.string ⟨#[112]⟩, .string ⟨#[113]⟩] 9)).alloc (.cells #[.string s, .int .i64 k2, .string f2, .string x2, .slice a2 m2 c2] 63)).drew.cell? ⟨F, 2, none⟩ = some pv := by
    show ((W.alloc _).alloc _).cell? _ = _
    rw [World.cell?_alloc_old _ _ _ (by show F ≠ _; simp; omega)]; exact hca
  have HS0 := veil ((World.rangeAt_drew _ _ _ _).2 hI)
  have HSa := veil ((World.rangeAt_drew _ _ _ _).2 (World.rangeAt_alloc hI (.cells #[.string ⟨#[112]⟩, .string ⟨#[113]⟩] 9)))
  have HSb := veil ((World.rangeAt_drew _ _ _ _).2 (World.rangeAt_alloc (World.rangeAt_alloc hI (.cells #[.string ⟨#[112]⟩, .string ⟨#[113]⟩] 9)) (.cells #[.string s, .int .i64 k2, .string f2, .string x2, .slice a2 m2 c2] 63)))
  have HB5 : Hid (Below W.heap.size W ((W.alloc (.cells #[.string ⟨#[112]⟩, .string ⟨#[113]⟩] 9)).alloc (.cells #[.string s, .int .i64 k2, .string f2, .string x2, .slice a2 m2 c2] 63)).drew) := (((Below.refl _ _).alloc (Nat.le_refl _) _).alloc (by simp) _).drew
  have HHs : Hid (((W.alloc (.cells #[.string ⟨#[112]⟩, .string ⟨#[113]⟩] 9)).alloc (.cells #[.string s, .int .i64 k2, .string f2, .string x2, .slice a2 m2 c2] 63)).drew.heap.size = W.heap.size + 2) := by show ((W.alloc _).alloc _).heap.size = _; simp
  have HNews : Hid (∀ j u, ([.string s, .int .i64 k2, .string f2, .string x2, .slice a2 m2 c2] : List Value)[j]? = some u → ((W.alloc (.cells #[.string ⟨#[112]⟩, .string ⟨#[113]⟩] 9)).alloc (.cells #[.string s, .int .i64 k2, .string f2, .string x2, .slice a2 m2 c2] 63)).drew.cell? ((⟨W.heap.size + 1, 0, none⟩ : Addr).add j) = some u) := by
    refine World.news_of_block (cs := #[.string s, .int .i64 k2, .string f2, .string x2, .slice a2 m2 c2]) (t := 63) (fr := (0, 0)) ?_
    have h := heap_alloc_new (W.alloc (.cells #[.string ⟨#[112]⟩, .string ⟨#[113]⟩] 9)) (.cells #[.string s, .int .i64 k2, .string f2, .string x2, .slice a2 m2 c2] 63)
    rw [show (W.alloc (.cells #[.string ⟨#[112]⟩, .string ⟨#[113]⟩] 9)).heap.size = W.heap.size + 1 by simp] at h
    exact h
  have HOne : Hid (∀ u ∈ ([.string s, .int .i64 k2, .string f2, .string x2, .slice a2 m2 c2] : List Value), u.oneCell' = true) := by intro u hu; simp at hu; rcases hu with rfl | rfl | rfl | rfl | rfl <;> rfl
  have HFarF : Hid (some F ≠ pv.ownBlock) := fun h => by have := ownsRow_in hat.own _ h.symm; omega
  have HFarI : Hid (some I ≠ pv.ownBlock) := fun h => hIo h.symm
  have HX : Hid (FdC (Parts base pv W) W ⟨s, t⟩ [.string s, .int .i64 k2, .string f2, .string x2, .slice a2 m2 c2]) := ⟨k2, f2, x2, a2, m2, c2, rfl, by unfold maxLen; show s.size ≤ _; omega, hty⟩
  have HOk := veil hok
  have HAt := veil hat
  have HOwn : Hid (((W.alloc (.cells #[.string ⟨#[112]⟩, .string ⟨#[113]⟩] 9)).alloc (.cells #[.string s, .int .i64 k2, .string f2, .string x2, .slice a2 m2 c2] 63)).drew.ownsRow base 63 5 pv ps.length ys) := own_below hat.own HB5.out
  obtain ⟨i0, hi0, hz0, hz1, hz2⟩ := info_parts fd_info
  have HI0 := veil hi0
  have HZ0 := veil hz0
  have HZ1 := veil hz1
  have HZ2 := veil hz2
  clear hat hi0 hz0 hz1 hz2 hI hty hok hIo hsI
  unfold opsPar
  refine wp_region_held_drew (S := fun w' => w'.rangeAt I 0 [.int .i64 k2, .string f2, .string x2, .slice a2 m2 c2]) (by kernel_rfl) HS0.out (fun hHeld => ?_)
  clear hHeld
  refine any_take 0 rfl rfl (by kernel_rfl) (by kernel_rfl) (by kernel_rfl) (fun _ _ _ h => h) (v := .pointer (some ⟨F, 2, none⟩)) (Or.inl ⟨by rfl, fun w hw => by go_simp⟩) HS0.out ?_
  refine any_take 3 rfl rfl (by kernel_rfl) (by kernel_rfl) (by kernel_rfl) (fun _ _ _ h => h) (v := .int .i64 j) (Or.inl ⟨by rfl, fun w hw => by go_simp⟩) HS0.out ?_
  refine any_take 6 rfl rfl (by kernel_rfl) (by kernel_rfl) (by kernel_rfl) (fun _ _ _ h => h) (yieldsIf_load_mid (by rfl) _ _ rfl _ _ rfl [.int .i64 k2, .string f2, .string x2, .slice a2 m2 c2] _ (fun _ h => h) Tryz.underlying49 rfl tyT_size4) HS0.out ?_
  refine any_two 1 2 (by kernel_rfl) rfl rfl rfl rfl (fun K hK => ?_) (fun K hK => ?_)
  · have HK := veil hK
    clear hK
    go_simp
    refine HK.out _ _ HS0.out ?_
    clear HK K
    refine any_one 2 (by kernel_rfl) rfl rfl (fun K hK => ?_)
    have HK := veil hK
    clear hK
    go_simp
    refine HK.out _ _ HSa.out ?_
    clear HK K
    refine any_take 4 rfl rfl (by kernel_rfl) (by kernel_rfl) (by kernel_rfl) (fun _ _ _ h => h) (v := .pointer (some ⟨W.heap.size, j, none⟩)) (Or.inl ⟨by rfl, fun w hw => by go_simp⟩) HSa.out ?_
    refine any_one 5 (by kernel_rfl) rfl rfl (fun K hK => ?_)
    have HK := veil hK
    clear hK
    go_simp
    refine HK.out _ _ HSa.out ?_
    clear HK K
    refine any_take 7 rfl rfl (by kernel_rfl) (by kernel_rfl) (by kernel_rfl) (fun _ _ _ h => h) (v := .agg #[.string s, .int .i64 k2, .string f2, .string x2, .slice a2 m2 c2]) (Or.inl ⟨by rfl, fun w hw => by go_simp⟩) HSa.out ?_
    refine any_one 8 (by kernel_rfl) rfl rfl (fun K hK => ?_)
    have HK := veil hK
    clear hK
    go_simp
    refine HK.out _ _ HSb.out ?_
    clear HK K
    refine any_one 9 (by kernel_rfl) rfl rfl (fun K hK => ?_)
    refine wp_append_lies _ _ _ _ rfl base 63 i0 _ 5 80 Tryz.underlying23 HI0.out HZ0.out HZ1.out HZ2.out rfl (by omega) pv ps.length ys rfl HOwn.out ⟨W.heap.size + 1, 0, none⟩ 1 1 [.string s, .int .i64 k2, .string f2, .string x2, .slice a2 m2 c2] rfl rfl HNews.out HOne.out (by omega) (by unfold maxLen; omega) (by omega) (by rw [HHs.out]; omega) _ rfl (fun g cap w1 hown1 hgrow hat1 hlt => ?_)
    have HP := veil (fn_grown HAt.out HB5.out hgrow hown1 hat1 rfl HX.out ⟨⟨HsI.out, hs8⟩, HOk.out⟩)
    have hb1 : w1.heap[F]? = some (.cells (fnCells nm var pv k1 f1 x1 rv) 54 (0, 0)) := (hgrow.block F (by rw [HHs.out]; omega) HFarF.out).trans ((HB5.out.block F hFW).trans HAt.out.box)
    have hcF : w1.cell? ⟨F, 2, none⟩ = some pv := by rw [cell_of_row w1 F 2 _ _ _ hb1]; rfl
    have hfF : w1.frozen? ⟨F, 2, none⟩ = false := Lib.frozen_of_heap hb1 2
    have HS3 : Hid (w1.rangeAt I 0 [.int .i64 k2, .string f2, .string x2, .slice a2 m2 c2]) := fun jj u hu => (hgrow.cell_far ⟨I, 0 + jj, none⟩ (by rw [HHs.out]; show I < _; omega) HFarI.out).trans (HSb.out jj u hu)
    refine hK _ _ HS3.out ?_
    clear hK K hgrow hown1 hb1 hc0 hca hcb
    refine any_take 10 rfl rfl (by kernel_rfl) (by kernel_rfl) (by kernel_rfl) (fun _ _ _ h => h) (v := .pointer (some ⟨F, 2, none⟩)) (Or.inl ⟨by rfl, fun w hw => by go_simp⟩) HS3.out ?_
    refine any_one 11 (by kernel_rfl) rfl rfl (fun K hK => ?_)
    have HK := veil hK
    clear hK
    go_simp
    refine HK.out _ _ (fun jj u hu => ?_) (wpAnyH_done (by kernel_rfl) ⟨_, _, _, _, _, _, _, _, _, _, _, rfl, ⟨s, t⟩, _, _, HP.out⟩ _)
    rw [World.cell?_setCell_other _ _ _ _ (by intro h; injection h with h _ _; omega)]
    exact HS3.out jj u hu
  · have HK := veil hK
    clear hK
    go_simp
    refine HK.out _ _ HSa.out ?_
    clear HK K
    refine any_take 4 rfl rfl (by kernel_rfl) (by kernel_rfl) (by kernel_rfl) (fun _ _ _ h => h) (v := .pointer (some ⟨W.heap.size, j, none⟩)) (Or.inl ⟨by rfl, fun w hw => by go_simp⟩) HSa.out ?_
    refine any_two 1 5 (by kernel_rfl) rfl rfl rfl rfl (fun K hK => ?_) (fun K hK => ?_)
    · have HK := veil hK
      clear hK
      go_simp
      refine HK.out _ _ HSa.out ?_
      clear HK K
      refine any_one 5 (by kernel_rfl) rfl rfl (fun K hK => ?_)
      have HK := veil hK
      clear hK
      go_simp
      refine HK.out _ _ HSa.out ?_
      clear HK K
      refine any_take 7 rfl rfl (by kernel_rfl) (by kernel_rfl) (by kernel_rfl) (fun _ _ _ h => h) (v := .agg #[.string s, .int .i64 k2, .string f2, .string x2, .slice a2 m2 c2]) (Or.inl ⟨by rfl, fun w hw => by go_simp⟩) HSa.out ?_
      refine any_one 8 (by kernel_rfl) rfl rfl (fun K hK => ?_)
      have HK := veil hK
      clear hK
      go_simp
      refine HK.out _ _ HSb.out ?_
      clear HK K
      refine any_one 9 (by kernel_rfl) rfl rfl (fun K hK => ?_)
      refine wp_append_lies _ _ _ _ rfl base 63 i0 _ 5 80 Tryz.underlying23 HI0.out HZ0.out HZ1.out HZ2.out rfl (by omega) pv ps.length ys rfl HOwn.out ⟨W.heap.size + 1, 0, none⟩ 1 1 [.string s, .int .i64 k2, .string f2, .string x2, .slice a2 m2 c2] rfl rfl HNews.out HOne.out (by omega) (by unfold maxLen; omega) (by omega) (by rw [HHs.out]; omega) _ rfl (fun g cap w1 hown1 hgrow hat1 hlt => ?_)
      have HP := veil (fn_grown HAt.out HB5.out hgrow hown1 hat1 rfl HX.out ⟨⟨HsI.out, hs8⟩, HOk.out⟩)
      have hb1 : w1.heap[F]? = some (.cells (fnCells nm var pv k1 f1 x1 rv) 54 (0, 0)) := (hgrow.block F (by rw [HHs.out]; omega) HFarF.out).trans ((HB5.out.block F hFW).trans HAt.out.box)
      have hcF : w1.cell? ⟨F, 2, none⟩ = some pv := by rw [cell_of_row w1 F 2 _ _ _ hb1]; rfl
      have hfF : w1.frozen? ⟨F, 2, none⟩ = false := Lib.frozen_of_heap hb1 2
      have HS3 : Hid (w1.rangeAt I 0 [.int .i64 k2, .string f2, .string x2, .slice a2 m2 c2]) := fun jj u hu => (hgrow.cell_far ⟨I, 0 + jj, none⟩ (by rw [HHs.out]; show I < _; omega) HFarI.out).trans (HSb.out jj u hu)
      refine hK _ _ HS3.out ?_
      clear hK K hgrow hown1 hb1 hc0 hca hcb
      refine any_take 10 rfl rfl (by kernel_rfl) (by kernel_rfl) (by kernel_rfl) (fun _ _ _ h => h) (v := .pointer (some ⟨F, 2, none⟩)) (Or.inl ⟨by rfl, fun w hw => by go_simp⟩) HS3.out ?_
      refine any_one 11 (by kernel_rfl) rfl rfl (fun K hK => ?_)
      have HK := veil hK
      clear hK
      go_simp
      refine HK.out _ _ (fun jj u hu => ?_) (wpAnyH_done (by kernel_rfl) ⟨_, _, _, _, _, _, _, _, _, _, _, rfl, ⟨s, t⟩, _, _, HP.out⟩ _)
      rw [World.cell?_setCell_other _ _ _ _ (by intro h; injection h with h _ _; omega)]
      exact HS3.out jj u hu
    · have HK := veil hK
      clear hK
      go_simp
      refine HK.out _ _ HSa.out ?_
      clear HK K
      refine any_take 7 rfl rfl (by kernel_rfl) (by kernel_rfl) (by kernel_rfl) (fun _ _ _ h => h) (v := .agg #[.string s, .int .i64 k2, .string f2, .string x2, .slice a2 m2 c2]) (Or.inl ⟨by rfl, fun w hw => by go_simp⟩) HSa.out ?_
      refine any_two 1 8 (by kernel_rfl) rfl rfl rfl rfl (fun K hK => ?_) (fun K hK => ?_)
      · have HK := veil hK
        clear hK
        go_simp
        refine HK.out _ _ HSa.out ?_
        clear HK K
        refine any_one 8 (by kernel_rfl) rfl rfl (fun K hK => ?_)
        have HK := veil hK
        clear hK
        go_simp
        refine HK.out _ _ HSb.out ?_
        clear HK K
        refine any_one 9 (by kernel_rfl) rfl rfl (fun K hK => ?_)
        refine wp_append_lies _ _ _ _ rfl base 63 i0 _ 5 80 Tryz.underlying23 HI0.out HZ0.out HZ1.out HZ2.out rfl (by omega) pv ps.length ys rfl HOwn.out ⟨W.heap.size + 1, 0, none⟩ 1 1 [.string s, .int .i64 k2, .string f2, .string x2, .slice a2 m2 c2] rfl rfl HNews.out HOne.out (by omega) (by unfold maxLen; omega) (by omega) (by rw [HHs.out]; omega) _ rfl (fun g cap w1 hown1 hgrow hat1 hlt => ?_)
        have HP := veil (fn_grown HAt.out HB5.out hgrow hown1 hat1 rfl HX.out ⟨⟨HsI.out, hs8⟩, HOk.out⟩)
        have hb1 : w1.heap[F]? = some (.cells (fnCells nm var pv k1 f1 x1 rv) 54 (0, 0)) := (hgrow.block F (by rw [HHs.out]; omega) HFarF.out).trans ((HB5.out.block F hFW).trans HAt.out.box)
        have hcF : w1.cell? ⟨F, 2, none⟩ = some pv := by rw [cell_of_row w1 F 2 _ _ _ hb1]; rfl
        have hfF : w1.frozen? ⟨F, 2, none⟩ = false := Lib.frozen_of_heap hb1 2
        have HS3 : Hid (w1.rangeAt I 0 [.int .i64 k2, .string f2, .string x2, .slice a2 m2 c2]) := fun jj u hu => (hgrow.cell_far ⟨I, 0 + jj, none⟩ (by rw [HHs.out]; show I < _; omega) HFarI.out).trans (HSb.out jj u hu)
        refine hK _ _ HS3.out ?_
        clear hK K hgrow hown1 hb1 hc0 hca hcb
        refine any_take 10 rfl rfl (by kernel_rfl) (by kernel_rfl) (by kernel_rfl) (fun _ _ _ h => h) (v := .pointer (some ⟨F, 2, none⟩)) (Or.inl ⟨by rfl, fun w hw => by go_simp⟩) HS3.out ?_
        refine any_one 11 (by kernel_rfl) rfl rfl (fun K hK => ?_)
        have HK := veil hK
        clear hK
        go_simp
        refine HK.out _ _ (fun jj u hu => ?_) (wpAnyH_done (by kernel_rfl) ⟨_, _, _, _, _, _, _, _, _, _, _, rfl, ⟨s, t⟩, _, _, HP.out⟩ _)
        rw [World.cell?_setCell_other _ _ _ _ (by intro h; injection h with h _ _; omega)]
        exact HS3.out jj u hu
      · have HK := veil hK
        clear hK
        go_simp
        refine HK.out _ _ HSb.out ?_
        clear HK K
        refine any_one 1 (by kernel_rfl) rfl rfl (fun K hK => ?_)
        have HK := veil hK
        clear hK
        go_simp
        refine HK.out _ _ HSb.out ?_
        clear HK K
        refine any_one 9 (by kernel_rfl) rfl rfl (fun K hK => ?_)
        refine wp_append_lies _ _ _ _ rfl base 63 i0 _ 5 80 Tryz.underlying23 HI0.out HZ0.out HZ1.out HZ2.out rfl (by omega) pv ps.length ys rfl HOwn.out ⟨W.heap.size + 1, 0, none⟩ 1 1 [.string s, .int .i64 k2, .string f2, .string x2, .slice a2 m2 c2] rfl rfl HNews.out HOne.out (by omega) (by unfold maxLen; omega) (by omega) (by rw [HHs.out]; omega) _ rfl (fun g cap w1 hown1 hgrow hat1 hlt => ?_)
        have HP := veil (fn_grown HAt.out HB5.out hgrow hown1 hat1 rfl HX.out ⟨⟨HsI.out, hs8⟩, HOk.out⟩)
        have hb1 : w1.heap[F]? = some (.cells (fnCells nm var pv k1 f1 x1 rv) 54 (0, 0)) := (hgrow.block F (by rw [HHs.out]; omega) HFarF.out).trans ((HB5.out.block F hFW).trans HAt.out.box)
        have hcF : w1.cell? ⟨F, 2, none⟩ = some pv := by rw [cell_of_row w1 F 2 _ _ _ hb1]; rfl
        have hfF : w1.frozen? ⟨F, 2, none⟩ = false := Lib.frozen_of_heap hb1 2
        have HS3 : Hid (w1.rangeAt I 0 [.int .i64 k2, .string f2, .string x2, .slice a2 m2 c2]) := fun jj u hu => (hgrow.cell_far ⟨I, 0 + jj, none⟩ (by rw [HHs.out]; show I < _; omega) HFarI.out).trans (HSb.out jj u hu)
        refine hK _ _ HS3.out ?_
        clear hK K hgrow hown1 hb1 hc0 hca hcb
        refine any_take 10 rfl rfl (by kernel_rfl) (by kernel_rfl) (by kernel_rfl) (fun _ _ _ h => h) (v := .pointer (some ⟨F, 2, none⟩)) (Or.inl ⟨by rfl, fun w hw => by go_simp⟩) HS3.out ?_
        refine any_one 11 (by kernel_rfl) rfl rfl (fun K hK => ?_)
        have HK := veil hK
        clear hK
        go_simp
        refine HK.out _ _ (fun jj u hu => ?_) (wpAnyH_done (by kernel_rfl) ⟨_, _, _, _, _, _, _, _, _, _, _, rfl, ⟨s, t⟩, _, _, HP.out⟩ _)
        rw [World.cell?_setCell_other _ _ _ _ (by intro h; injection h with h _ _; omega)]
        exact HS3.out jj u hu

end Go.Proofs.YtieoddnaknpmlabGreatDoor
