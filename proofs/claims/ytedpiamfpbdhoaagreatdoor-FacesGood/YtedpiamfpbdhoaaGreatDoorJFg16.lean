import Derived.Test.YtedpiamfpbdhoaaGreatDoorJFg10
import Derived.Deep.Slices
import Derived.SizedLaws
import Derived.ProofKit
import Derived.Deep.RegionWith
set_option maxHeartbeats 40000000
set_option maxRecDepth 100000
namespace Go.Proofs.YtedpiamfpbdhoaaGreatDoor
open Go.RowKit
theorem zgq:(Tryz.prog.info? 49).map (fun i=>(i.zero,i.size,i.bytes))=some (some (.agg #[.string ⟨#[]⟩,.bool false,.slice none 0 0,.slice none 0 0]),4,72):=by kernel_rfl
def ZQ (u:ByteArray) (t b:Bool) (x y:Value):List Value:=[.string u,.bool t,if b=true then x else .slice none 0 0,if b=true then y else .slice none 0 0]
def zhb:Array Oper:=#[⟨some 53,Op.move (Operand.tmp 12),22,"keep.go:126",#[],none⟩,⟨some 54,Op.move (Operand.tmp 14),9,"keep.go:126",#[],none⟩,⟨some 55,Op.move (Operand.tmp 14),9,"keep.go:126",#[],none⟩,⟨some 56,Op.binOp BinOp.neq 9 (Operand.tmp 55) (Operand.const (Value.string { data:=#[100] })) 9,4,"keep.go:126",#[⟨2,.data⟩],none⟩,⟨some 57,Op.load 26 (Operand.tmp 9),26,"keep.go:126",#[],none⟩,⟨some 58,Op.build 26 #[],26,"keep.go:126",#[],none⟩,⟨some 59,Op.buildSlice 46 2 #[(0,Operand.tmp 57),(1,Operand.tmp 58)],46,"keep.go:126",#[⟨4,.data⟩,⟨5,.data⟩],none⟩,⟨some 60,Op.move (Operand.tmp 14),9,"keep.go:126",#[],none⟩,⟨some 61,Op.call { callee:=Callee.builtin Builtin.len,args:=#[Operand.tmp 60],argTypes:=#[9] },3,"keep.go:126",#[⟨7,.data⟩],none⟩,⟨some 62,Op.call { callee:=Callee.value (Operand.func 13),args:=#[Operand.tmp 61,Operand.const (Value.int IntKind.i64 2)],argTypes:=#[3,3] },3,"keep.go:126",#[⟨8,.data⟩],none⟩,⟨some 63,Op.indexAddr 46 (Operand.tmp 59) (Operand.tmp 62),0,"keep.go:126",#[⟨6,.data⟩,⟨9,.data⟩],none⟩,⟨some 64,Op.load 26 (Operand.tmp 63),26,"keep.go:126",#[⟨10,.data⟩],none⟩,⟨some 65,Op.build 49 #[(0,Operand.tmp 54),(1,Operand.tmp 56),(2,Operand.tmp 64)],49,"keep.go:126",#[⟨1,.data⟩,⟨3,.data⟩,⟨11,.data⟩],none⟩,⟨some 66,Op.buildSlice 22 1 #[(0,Operand.tmp 65)],22,"keep.go:126",#[⟨12,.data⟩],none⟩,⟨some 67,Op.call { callee:=Callee.builtin Builtin.append,args:=#[Operand.tmp 53,Operand.tmp 66],argTypes:=#[22,22] },22,"keep.go:126",#[⟨0,.data⟩,⟨13,.data⟩,⟨9,.chain⟩],none⟩,⟨some 12,Op.assign (Operand.tmp 67),22,"keep.go:126",#[⟨14,.data⟩,⟨14,.chain⟩,⟨0,.phase⟩,⟨1,.phase⟩,⟨2,.phase⟩,⟨3,.phase⟩,⟨4,.phase⟩,⟨5,.phase⟩,⟨6,.phase⟩,⟨7,.phase⟩,⟨8,.phase⟩,⟨9,.phase⟩,⟨10,.phase⟩,⟨11,.phase⟩,⟨12,.phase⟩,⟨13,.phase⟩,⟨14,.phase⟩],none⟩]
theorem zeV (t0 t1 t2 t3 t4 t5 t6 t7 t8 t10 t11 t13 t15 t16 t17 t18 t19 t20 t21 t22 t23 t24 t25 t26 t27 t28 t29 t30 t31 t32 t33 t34 t35 t36 t37 t38 t39 t40 t41 t42 t43 t44 t45 t46 t47 t48 t49 t50 t51 t52 t53 t54 t55 t56 t57 t58 t59 t60 t61 t62 t63 t64 t65 t66 t67 t68 t69 t70 t71 t72 t73 t74 t75 t76 t77 t78 t79 t80 t81 t82 t83 t84 t85 t86 t87 t88 t89 t90 t91 t92 t93 t94 t95 t96 t97 t98 t99 t100 t101 t102 t103 t104 t105 t106 t107 t108 t109 t110 t111 t112 t113 t114 t115 t116 t117 t118 t119 t120 t121 t122:Value) (u:ByteArray) (hu:u.size<=8) (fB base:Nat) (x1 y1:Option Addr) (x2 x3 y2 y3:Nat) (la:Option Addr) (n lcap:Nat) (hn:n<=1000) (xs:List Value) (W:World) (hB:base<=W.heap.size) (hf:fB<base) (c0:W.cell? ⟨fB,0,none⟩=some (.slice x1 x2 x3)) (c1:W.cell? ⟨fB,1,none⟩=some (.slice y1 y2 y3)) (hown:W.ownsRow base 49 4 (.slice la n lcap) n xs) :
  Code.wp Tryz.prog (Code.region 12 zhb true) (Zn fun a w=>∃v53 v54 v55 v56 v57 v58 v59 v60 v61 v62 v63 v64 v65 v66 v67 b g cap,a={ tmps:=#[t0,t1,t2,t3,t4,t5,t6,t7,t8,(.pointer (some ⟨fB,0,none⟩)),t10,t11,(.slice (some ⟨g,0,none⟩) (n+1) cap),t13,(.string u),t15,t16,t17,t18,t19,t20,t21,t22,t23,t24,t25,t26,t27,t28,t29,t30,t31,t32,t33,t34,t35,t36,t37,t38,t39,t40,t41,t42,t43,t44,t45,t46,t47,t48,t49,t50,t51,t52,v53,v54,v55,v56,v57,v58,v59,v60,v61,v62,v63,v64,v65,v66,v67,t68,t69,t70,t71,t72,t73,t74,t75,t76,t77,t78,t79,t80,t81,t82,t83,t84,t85,t86,t87,t88,t89,t90,t91,t92,t93,t94,t95,t96,t97,t98,t99,t100,t101,t102,t103,t104,t105,t106,t107,t108,t109,t110,t111,t112,t113,t114,t115,t116,t117,t118,t119,t120,t121,t122],defers:=[] }/\w.ownsRow base 49 4 (.slice (some ⟨g,0,none⟩) (n+1) cap) (n+1) (xs++ZQ u (!(u.toList==[100])) b (.slice x1 x2 x3) (.slice y1 y2 y3))/\Below base W w) { tmps:=#[t0,t1,t2,t3,t4,t5,t6,t7,t8,(.pointer (some ⟨fB,0,none⟩)),t10,t11,(.slice la n lcap),t13,(.string u),t15,t16,t17,t18,t19,t20,t21,t22,t23,t24,t25,t26,t27,t28,t29,t30,t31,t32,t33,t34,t35,t36,t37,t38,t39,t40,t41,t42,t43,t44,t45,t46,t47,t48,t49,t50,t51,t52,t53,t54,t55,t56,t57,t58,t59,t60,t61,t62,t63,t64,t65,t66,t67,t68,t69,t70,t71,t72,t73,t74,t75,t76,t77,t78,t79,t80,t81,t82,t83,t84,t85,t86,t87,t88,t89,t90,t91,t92,t93,t94,t95,t96,t97,t98,t99,t100,t101,t102,t103,t104,t105,t106,t107,t108,t109,t110,t111,t112,t113,t114,t115,t116,t117,t118,t119,t120,t121,t122],defers:=[] } W:=by
 have hS0:Below base W W.drew:=(Below.refl _ _).drew;have hfW:fB<W.heap.size:=by omega
 obtain⟨i0,hi0,hz0,hz1,hz2⟩:=info_parts zgq;have HI0:=zd hi0;have HZ0:=zd hz0;have HZ1:=zd hz1;have HZ2:=zd hz2;have HOwn:=zd hown;have HSa:Hid (Below base W (W.alloc (.cells #[.slice x1 x2 x3,.slice y1 y2 y3,.slice none 0 0,.slice none 0 0] 26)).drew):=((Below.refl _ _).alloc hB _).drew;have HC0:Hid (∀w,Below base W w->w.cell? ⟨fB,0,none⟩=some (.slice x1 x2 x3)/\w.cell? ⟨fB,1,none⟩=some (.slice y1 y2 y3)):=fun w hw=>⟨(hw.cell (p:=⟨fB,0,none⟩) hf).trans c0,(hw.cell (p:=⟨fB,1,none⟩) hf).trans c1⟩
 have HP:Hid (∀w:World,Calls Tryz.prog 13 #[.int .i64 (u.size:Nat),.int .i64 2] w fun e w'=>∃k:Nat,e=.returned (.int .i64 k)/\(k:Int)<2/\w=w'):=fun w=>
  XY _ (by simp[wfI,Lit.wf,IntKind.min,IntKind.max,IntKind.signed,IntKind.bits]; omega) 2 (by omega) (by omega) w
 clear hi0 hz0 hz1 hz2 hown c0 c1;unfold zhb;refine wp_region_held_drew (S:=fun w'=>Below base W w') (by kernel_rfl) hS0 (fun hHeld=>?_);clear hHeld;refine zh 0 rfl rfl (by kernel_rfl) (by kernel_rfl) (by kernel_rfl) (fun _ _ _ h=>h) (v:=.slice la n lcap) (Or.inl ⟨by rfl,fun w hw=>by go_simp⟩) hS0 ?_;refine zh 1 rfl rfl (by kernel_rfl) (by kernel_rfl) (by kernel_rfl) (fun _ _ _ h=>h) (v:=.string u) (Or.inl ⟨by rfl,fun w hw=>by go_simp⟩) hS0 ?_;refine zh 2 rfl rfl (by kernel_rfl) (by kernel_rfl) (by kernel_rfl) (fun _ _ _ h=>h) (v:=.string u) (Or.inl ⟨by rfl,fun w hw=>by go_simp⟩) hS0 ?_;refine zh 3 rfl rfl (by kernel_rfl) (by kernel_rfl) (by kernel_rfl) (fun _ _ _ h=>h) (v:=.bool (!(u.toList==[100]))) (Or.inl ⟨by rfl,fun w hw=>by go_simp⟩) hS0 ?_;refine zh 4 rfl rfl (by kernel_rfl) (by kernel_rfl) (by kernel_rfl) (fun _ _ _ h=>h) (v:=.agg #[.slice x1 x2 x3,.slice y1 y2 y3]) (Or.inl ⟨by rfl,fun w hw=>by obtain⟨e0,e1⟩:=HC0.out w hw; go_simp⟩) hS0 ?_;refine zh 5 rfl rfl (by kernel_rfl) (by kernel_rfl) (by kernel_rfl) (fun _ _ _ h=>h) (v:=.agg #[.slice none 0 0,.slice none 0 0]) (Or.inl ⟨by rfl,fun w hw=>by go_simp⟩) hS0 ?_;refine zh 7 rfl rfl (by kernel_rfl) (by kernel_rfl) (by kernel_rfl) (fun _ _ _ h=>h) (v:=.string u) (Or.inl ⟨by rfl,fun w hw=>by go_simp⟩) hS0 ?_;refine zh 8 rfl rfl (by kernel_rfl) (by kernel_rfl) (by kernel_rfl) (fun _ _ _ h=>h) (v:=.int .i64 (u.size:Nat)) (Or.inl ⟨by rfl,fun w hw=>by go_simp⟩) hS0 ?_;refine xz 6 9 (by kernel_rfl) rfl rfl rfl rfl (fun K hK=>?_) (fun K hK=>?_)
 ·have HK:=zd hK
  clear hK
  go_simp
  refine HK.out _ _ HSa.out ?_;clear HK K;refine zg 9 (by kernel_rfl) rfl rfl (fun K hK=>?_);have HK:=zd hK;clear hK
  go_simp
  refine (HP.out _).mono ?_;rintro e wq ⟨k,rfl,hk,rfl⟩;refine HK.out _ _ HSa.out ?_;clear HK K;obtain rfl|rfl:k=0\/k=1:=by omega
  ·refine zh 10 rfl rfl (by kernel_rfl) (by kernel_rfl) (by kernel_rfl) (fun _ _ _ h=>h) (v:=.pointer (some ⟨W.heap.size,0,none⟩)) (Or.inl ⟨by rfl,fun w hw=>by go_simp⟩) HSa.out ?_
   refine zg 11 (by kernel_rfl) rfl rfl (fun K hK=>?_);have HK:=zd hK;clear hK
   go_simp
   refine HK.out _ _ HSa.out ?_;clear HK K;refine zh 12 rfl rfl (by kernel_rfl) (by kernel_rfl) (by kernel_rfl) (fun _ _ _ h=>h) (v:=.agg #[.string u,.bool (!(u.toList==[100])),.slice x1 x2 x3,.slice y1 y2 y3]) (Or.inl ⟨by rfl,fun w hw=>by go_simp⟩) HSa.out ?_;refine zg 13 (by kernel_rfl) rfl rfl (fun K hK=>?_);have HK:=zd hK;clear hK;have HSb:Hid (Below base W ((W.alloc (.cells #[.slice x1 x2 x3,.slice y1 y2 y3,.slice none 0 0,.slice none 0 0] 26)).alloc (.cells #[.string u,.bool (!(u.toList==[100])),.slice x1 x2 x3,.slice y1 y2 y3] 49)).drew):=(((Below.refl _ _).alloc hB _).alloc (by simp; omega) _).drew;have HOb:Hid ((((W.alloc (.cells #[.slice x1 x2 x3,.slice y1 y2 y3,.slice none 0 0,.slice none 0 0] 26)).alloc (.cells #[.string u,.bool (!(u.toList==[100])),.slice x1 x2 x3,.slice y1 y2 y3] 49)).drew).ownsRow base 49 4 (.slice la n lcap) n xs):=((HOwn.out.alloc _).alloc _).drew;have HHs:Hid ((((W.alloc (.cells #[.slice x1 x2 x3,.slice y1 y2 y3,.slice none 0 0,.slice none 0 0] 26)).alloc (.cells #[.string u,.bool (!(u.toList==[100])),.slice x1 x2 x3,.slice y1 y2 y3] 49)).drew).heap.size=W.heap.size+2):=by show ((W.alloc _).alloc _).heap.size=_; simp
   have HNews:Hid (∀j u',([.string u,.bool (!(u.toList==[100])),.slice x1 x2 x3,.slice y1 y2 y3]:List Value)[j]? = some u'->(((W.alloc (.cells #[.slice x1 x2 x3,.slice y1 y2 y3,.slice none 0 0,.slice none 0 0] 26)).alloc (.cells #[.string u,.bool (!(u.toList==[100])),.slice x1 x2 x3,.slice y1 y2 y3] 49)).drew).cell? ((⟨W.heap.size+1,0,none⟩:Addr).add j)=some u'):=by
    refine World.news_of_block (cs:=#[.string u,.bool (!(u.toList==[100])),.slice x1 x2 x3,.slice y1 y2 y3]) (t:=49) (fr:=(0,0)) ?_;have h:=heap_alloc_new (W.alloc (.cells #[.slice x1 x2 x3,.slice y1 y2 y3,.slice none 0 0,.slice none 0 0] 26)) (.cells #[.string u,.bool (!(u.toList==[100])),.slice x1 x2 x3,.slice y1 y2 y3] 49);rw[show (W.alloc (.cells #[.slice x1 x2 x3,.slice y1 y2 y3,.slice none 0 0,.slice none 0 0] 26)).heap.size=W.heap.size+1 by simp] at h;exact h
   go_simp
   refine HK.out _ _ HSb.out ?_;clear HK K HSa;refine zg 14 (by kernel_rfl) rfl rfl (fun K hK=>?_);have HK:=zd hK;clear hK;refine wp_append_lies _ _ _ _ rfl base 49 i0 _ 4 72 Tryz.underlying22 HI0.out HZ0.out HZ1.out HZ2.out rfl (by omega) (.slice la n lcap) n xs rfl HOb.out ⟨W.heap.size+1,0,none⟩ 1 1 [.string u,.bool (!(u.toList==[100])),.slice x1 x2 x3,.slice y1 y2 y3] rfl rfl HNews.out (fun u' hu'=>by simp at hu'; rcases hu' with rfl|rfl|rfl|rfl <;> rfl) (by omega) (by unfold maxLen; omega) (by omega) (by rw[HHs.out]; omega) _ rfl (fun g cap w3 hown3 hgrow3 hat3 hlt3=>?_);have hS3:Below base W w3:=HSb.out.grown hgrow3 (by rw[HHs.out]; omega) (fun q hq=>(zk HOb.out q hq).1);refine HK.out _ _ hS3 ?_;clear HK K hgrow3 hat3 hlt3;refine zg 15 (by kernel_rfl) rfl rfl (fun K hK=>?_);have HK:=zd hK;clear hK
   go_simp
   refine HK.out _ _ hS3 (wpAnyH_done (by kernel_rfl) ⟨_,_,_,_,_,_,_,_,_,_,_,_,_,_,_,true,g,cap,rfl,hown3,hS3⟩ _)
  ·refine zh 10 rfl rfl (by kernel_rfl) (by kernel_rfl) (by kernel_rfl) (fun _ _ _ h=>h) (v:=.pointer (some ⟨W.heap.size,2,none⟩)) (Or.inl ⟨by rfl,fun w hw=>by go_simp⟩) HSa.out ?_
   refine zg 11 (by kernel_rfl) rfl rfl (fun K hK=>?_);have HK:=zd hK;clear hK
   go_simp
   refine HK.out _ _ HSa.out ?_;clear HK K;refine zh 12 rfl rfl (by kernel_rfl) (by kernel_rfl) (by kernel_rfl) (fun _ _ _ h=>h) (v:=.agg #[.string u,.bool (!(u.toList==[100])),.slice none 0 0,.slice none 0 0]) (Or.inl ⟨by rfl,fun w hw=>by go_simp⟩) HSa.out ?_;refine zg 13 (by kernel_rfl) rfl rfl (fun K hK=>?_);have HK:=zd hK;clear hK;have HSb:Hid (Below base W ((W.alloc (.cells #[.slice x1 x2 x3,.slice y1 y2 y3,.slice none 0 0,.slice none 0 0] 26)).alloc (.cells #[.string u,.bool (!(u.toList==[100])),.slice none 0 0,.slice none 0 0] 49)).drew):=(((Below.refl _ _).alloc hB _).alloc (by simp; omega) _).drew;have HOb:Hid ((((W.alloc (.cells #[.slice x1 x2 x3,.slice y1 y2 y3,.slice none 0 0,.slice none 0 0] 26)).alloc (.cells #[.string u,.bool (!(u.toList==[100])),.slice none 0 0,.slice none 0 0] 49)).drew).ownsRow base 49 4 (.slice la n lcap) n xs):=((HOwn.out.alloc _).alloc _).drew;have HHs:Hid ((((W.alloc (.cells #[.slice x1 x2 x3,.slice y1 y2 y3,.slice none 0 0,.slice none 0 0] 26)).alloc (.cells #[.string u,.bool (!(u.toList==[100])),.slice none 0 0,.slice none 0 0] 49)).drew).heap.size=W.heap.size+2):=by show ((W.alloc _).alloc _).heap.size=_; simp
   have HNews:Hid (∀j u',([.string u,.bool (!(u.toList==[100])),.slice none 0 0,.slice none 0 0]:List Value)[j]? = some u'->(((W.alloc (.cells #[.slice x1 x2 x3,.slice y1 y2 y3,.slice none 0 0,.slice none 0 0] 26)).alloc (.cells #[.string u,.bool (!(u.toList==[100])),.slice none 0 0,.slice none 0 0] 49)).drew).cell? ((⟨W.heap.size+1,0,none⟩:Addr).add j)=some u'):=by
    refine World.news_of_block (cs:=#[.string u,.bool (!(u.toList==[100])),.slice none 0 0,.slice none 0 0]) (t:=49) (fr:=(0,0)) ?_;have h:=heap_alloc_new (W.alloc (.cells #[.slice x1 x2 x3,.slice y1 y2 y3,.slice none 0 0,.slice none 0 0] 26)) (.cells #[.string u,.bool (!(u.toList==[100])),.slice none 0 0,.slice none 0 0] 49);rw[show (W.alloc (.cells #[.slice x1 x2 x3,.slice y1 y2 y3,.slice none 0 0,.slice none 0 0] 26)).heap.size=W.heap.size+1 by simp] at h;exact h
   go_simp
   refine HK.out _ _ HSb.out ?_;clear HK K HSa;refine zg 14 (by kernel_rfl) rfl rfl (fun K hK=>?_);have HK:=zd hK;clear hK;refine wp_append_lies _ _ _ _ rfl base 49 i0 _ 4 72 Tryz.underlying22 HI0.out HZ0.out HZ1.out HZ2.out rfl (by omega) (.slice la n lcap) n xs rfl HOb.out ⟨W.heap.size+1,0,none⟩ 1 1 [.string u,.bool (!(u.toList==[100])),.slice none 0 0,.slice none 0 0] rfl rfl HNews.out (fun u' hu'=>by simp at hu'; rcases hu' with rfl|rfl|rfl|rfl <;> rfl) (by omega) (by unfold maxLen; omega) (by omega) (by rw[HHs.out]; omega) _ rfl (fun g cap w3 hown3 hgrow3 hat3 hlt3=>?_);have hS3:Below base W w3:=HSb.out.grown hgrow3 (by rw[HHs.out]; omega) (fun q hq=>(zk HOb.out q hq).1);refine HK.out _ _ hS3 ?_;clear HK K hgrow3 hat3 hlt3;refine zg 15 (by kernel_rfl) rfl rfl (fun K hK=>?_);have HK:=zd hK;clear hK
   go_simp
   refine HK.out _ _ hS3 (wpAnyH_done (by kernel_rfl) ⟨_,_,_,_,_,_,_,_,_,_,_,_,_,_,_,false,g,cap,rfl,hown3,hS3⟩ _)
 ·have HK:=zd hK
  clear hK
  go_simp
  refine (HP.out _).mono ?_;rintro e wq ⟨k,rfl,hk,rfl⟩;refine HK.out _ _ hS0 ?_;clear HK K;refine zg 6 (by kernel_rfl) rfl rfl (fun K hK=>?_);have HK:=zd hK;clear hK
  go_simp
  refine HK.out _ _ HSa.out ?_;clear HK K;obtain rfl|rfl:k=0\/k=1:=by omega
  ·refine zh 10 rfl rfl (by kernel_rfl) (by kernel_rfl) (by kernel_rfl) (fun _ _ _ h=>h) (v:=.pointer (some ⟨W.heap.size,0,none⟩)) (Or.inl ⟨by rfl,fun w hw=>by go_simp⟩) HSa.out ?_
   refine zg 11 (by kernel_rfl) rfl rfl (fun K hK=>?_);have HK:=zd hK;clear hK
   go_simp
   refine HK.out _ _ HSa.out ?_;clear HK K;refine zh 12 rfl rfl (by kernel_rfl) (by kernel_rfl) (by kernel_rfl) (fun _ _ _ h=>h) (v:=.agg #[.string u,.bool (!(u.toList==[100])),.slice x1 x2 x3,.slice y1 y2 y3]) (Or.inl ⟨by rfl,fun w hw=>by go_simp⟩) HSa.out ?_;refine zg 13 (by kernel_rfl) rfl rfl (fun K hK=>?_);have HK:=zd hK;clear hK;have HSb:Hid (Below base W ((W.alloc (.cells #[.slice x1 x2 x3,.slice y1 y2 y3,.slice none 0 0,.slice none 0 0] 26)).alloc (.cells #[.string u,.bool (!(u.toList==[100])),.slice x1 x2 x3,.slice y1 y2 y3] 49)).drew):=(((Below.refl _ _).alloc hB _).alloc (by simp; omega) _).drew;have HOb:Hid ((((W.alloc (.cells #[.slice x1 x2 x3,.slice y1 y2 y3,.slice none 0 0,.slice none 0 0] 26)).alloc (.cells #[.string u,.bool (!(u.toList==[100])),.slice x1 x2 x3,.slice y1 y2 y3] 49)).drew).ownsRow base 49 4 (.slice la n lcap) n xs):=((HOwn.out.alloc _).alloc _).drew;have HHs:Hid ((((W.alloc (.cells #[.slice x1 x2 x3,.slice y1 y2 y3,.slice none 0 0,.slice none 0 0] 26)).alloc (.cells #[.string u,.bool (!(u.toList==[100])),.slice x1 x2 x3,.slice y1 y2 y3] 49)).drew).heap.size=W.heap.size+2):=by show ((W.alloc _).alloc _).heap.size=_; simp
   have HNews:Hid (∀j u',([.string u,.bool (!(u.toList==[100])),.slice x1 x2 x3,.slice y1 y2 y3]:List Value)[j]? = some u'->(((W.alloc (.cells #[.slice x1 x2 x3,.slice y1 y2 y3,.slice none 0 0,.slice none 0 0] 26)).alloc (.cells #[.string u,.bool (!(u.toList==[100])),.slice x1 x2 x3,.slice y1 y2 y3] 49)).drew).cell? ((⟨W.heap.size+1,0,none⟩:Addr).add j)=some u'):=by
    refine World.news_of_block (cs:=#[.string u,.bool (!(u.toList==[100])),.slice x1 x2 x3,.slice y1 y2 y3]) (t:=49) (fr:=(0,0)) ?_;have h:=heap_alloc_new (W.alloc (.cells #[.slice x1 x2 x3,.slice y1 y2 y3,.slice none 0 0,.slice none 0 0] 26)) (.cells #[.string u,.bool (!(u.toList==[100])),.slice x1 x2 x3,.slice y1 y2 y3] 49);rw[show (W.alloc (.cells #[.slice x1 x2 x3,.slice y1 y2 y3,.slice none 0 0,.slice none 0 0] 26)).heap.size=W.heap.size+1 by simp] at h;exact h
   go_simp
   refine HK.out _ _ HSb.out ?_;clear HK K HSa;refine zg 14 (by kernel_rfl) rfl rfl (fun K hK=>?_);have HK:=zd hK;clear hK;refine wp_append_lies _ _ _ _ rfl base 49 i0 _ 4 72 Tryz.underlying22 HI0.out HZ0.out HZ1.out HZ2.out rfl (by omega) (.slice la n lcap) n xs rfl HOb.out ⟨W.heap.size+1,0,none⟩ 1 1 [.string u,.bool (!(u.toList==[100])),.slice x1 x2 x3,.slice y1 y2 y3] rfl rfl HNews.out (fun u' hu'=>by simp at hu'; rcases hu' with rfl|rfl|rfl|rfl <;> rfl) (by omega) (by unfold maxLen; omega) (by omega) (by rw[HHs.out]; omega) _ rfl (fun g cap w3 hown3 hgrow3 hat3 hlt3=>?_);have hS3:Below base W w3:=HSb.out.grown hgrow3 (by rw[HHs.out]; omega) (fun q hq=>(zk HOb.out q hq).1);refine HK.out _ _ hS3 ?_;clear HK K hgrow3 hat3 hlt3;refine zg 15 (by kernel_rfl) rfl rfl (fun K hK=>?_);have HK:=zd hK;clear hK
   go_simp
   refine HK.out _ _ hS3 (wpAnyH_done (by kernel_rfl) ⟨_,_,_,_,_,_,_,_,_,_,_,_,_,_,_,true,g,cap,rfl,hown3,hS3⟩ _)
  ·refine zh 10 rfl rfl (by kernel_rfl) (by kernel_rfl) (by kernel_rfl) (fun _ _ _ h=>h) (v:=.pointer (some ⟨W.heap.size,2,none⟩)) (Or.inl ⟨by rfl,fun w hw=>by go_simp⟩) HSa.out ?_
   refine zg 11 (by kernel_rfl) rfl rfl (fun K hK=>?_);have HK:=zd hK;clear hK
   go_simp
   refine HK.out _ _ HSa.out ?_;clear HK K;refine zh 12 rfl rfl (by kernel_rfl) (by kernel_rfl) (by kernel_rfl) (fun _ _ _ h=>h) (v:=.agg #[.string u,.bool (!(u.toList==[100])),.slice none 0 0,.slice none 0 0]) (Or.inl ⟨by rfl,fun w hw=>by go_simp⟩) HSa.out ?_;refine zg 13 (by kernel_rfl) rfl rfl (fun K hK=>?_);have HK:=zd hK;clear hK;have HSb:Hid (Below base W ((W.alloc (.cells #[.slice x1 x2 x3,.slice y1 y2 y3,.slice none 0 0,.slice none 0 0] 26)).alloc (.cells #[.string u,.bool (!(u.toList==[100])),.slice none 0 0,.slice none 0 0] 49)).drew):=(((Below.refl _ _).alloc hB _).alloc (by simp; omega) _).drew;have HOb:Hid ((((W.alloc (.cells #[.slice x1 x2 x3,.slice y1 y2 y3,.slice none 0 0,.slice none 0 0] 26)).alloc (.cells #[.string u,.bool (!(u.toList==[100])),.slice none 0 0,.slice none 0 0] 49)).drew).ownsRow base 49 4 (.slice la n lcap) n xs):=((HOwn.out.alloc _).alloc _).drew;have HHs:Hid ((((W.alloc (.cells #[.slice x1 x2 x3,.slice y1 y2 y3,.slice none 0 0,.slice none 0 0] 26)).alloc (.cells #[.string u,.bool (!(u.toList==[100])),.slice none 0 0,.slice none 0 0] 49)).drew).heap.size=W.heap.size+2):=by show ((W.alloc _).alloc _).heap.size=_; simp
   have HNews:Hid (∀j u',([.string u,.bool (!(u.toList==[100])),.slice none 0 0,.slice none 0 0]:List Value)[j]? = some u'->(((W.alloc (.cells #[.slice x1 x2 x3,.slice y1 y2 y3,.slice none 0 0,.slice none 0 0] 26)).alloc (.cells #[.string u,.bool (!(u.toList==[100])),.slice none 0 0,.slice none 0 0] 49)).drew).cell? ((⟨W.heap.size+1,0,none⟩:Addr).add j)=some u'):=by
    refine World.news_of_block (cs:=#[.string u,.bool (!(u.toList==[100])),.slice none 0 0,.slice none 0 0]) (t:=49) (fr:=(0,0)) ?_;have h:=heap_alloc_new (W.alloc (.cells #[.slice x1 x2 x3,.slice y1 y2 y3,.slice none 0 0,.slice none 0 0] 26)) (.cells #[.string u,.bool (!(u.toList==[100])),.slice none 0 0,.slice none 0 0] 49);rw[show (W.alloc (.cells #[.slice x1 x2 x3,.slice y1 y2 y3,.slice none 0 0,.slice none 0 0] 26)).heap.size=W.heap.size+1 by simp] at h;exact h
   go_simp
   refine HK.out _ _ HSb.out ?_;clear HK K HSa;refine zg 14 (by kernel_rfl) rfl rfl (fun K hK=>?_);have HK:=zd hK;clear hK;refine wp_append_lies _ _ _ _ rfl base 49 i0 _ 4 72 Tryz.underlying22 HI0.out HZ0.out HZ1.out HZ2.out rfl (by omega) (.slice la n lcap) n xs rfl HOb.out ⟨W.heap.size+1,0,none⟩ 1 1 [.string u,.bool (!(u.toList==[100])),.slice none 0 0,.slice none 0 0] rfl rfl HNews.out (fun u' hu'=>by simp at hu'; rcases hu' with rfl|rfl|rfl|rfl <;> rfl) (by omega) (by unfold maxLen; omega) (by omega) (by rw[HHs.out]; omega) _ rfl (fun g cap w3 hown3 hgrow3 hat3 hlt3=>?_);have hS3:Below base W w3:=HSb.out.grown hgrow3 (by rw[HHs.out]; omega) (fun q hq=>(zk HOb.out q hq).1);refine HK.out _ _ hS3 ?_;clear HK K hgrow3 hat3 hlt3;refine zg 15 (by kernel_rfl) rfl rfl (fun K hK=>?_);have HK:=zd hK;clear hK
   go_simp
   refine HK.out _ _ hS3 (wpAnyH_done (by kernel_rfl) ⟨_,_,_,_,_,_,_,_,_,_,_,_,_,_,_,false,g,cap,rfl,hown3,hS3⟩ _)
def zcM (k:Kn):Prop:=k.name.size<=reachBytes/\k.is.size<=reachBytes
def Kc (g:Sg):Prop:=g.name.size<=reachBytes/\g.result.size<=reachBytes/\g.params.length * 16<=reachBytes/\∀p∈g.params,p.size<=reachBytes
def zH (f:Fc):Prop:=(f.types.length * 32<=reachBytes/\∀k∈f.types,zcM k)/\f.funcs.length * 56<=reachBytes/\∀g∈f.funcs,Kc g
def zii (W:World) (cs:List Value) (b o:Nat):Prop:=b<W.heap.size/\∀j,j<cs.length->W.cell? ⟨b,o+j,none⟩=cs[j]?
section
variable {H:Type} {enc:TypeId×Value->H} {W:World} {base:Nat} {spare:Nat->Bool} {held:Bool}
end
theorem zeW (S:Nat->Prop) (l m:List ByteArray) (v u:Value) (w:World) (hS:∀b,S b->b<w.heap.size) (hv:ze S (zG w) 1 l v) (hu:ze S (zG w) 1 m u) :
  Calls Tryz.prog 91 #[v,u] w fun e w'=>e=.returned (.bool (eqL sEq l m))/\Below w.heap.size w w':=by
 have HL:=zd (ze.len hv);have HM:=zd (ze.len hu);have HV:=zd hv;have HU:=zd hu;obtain⟨a,cap,rfl⟩:=hv.is;obtain⟨a2,cap2,rfl⟩:=hu.is;clear hv hu
 by_cases hlm:l.length=m.length
 ·have hne:((l.length:Int) != (m.length:Int))=false:=by rw[hlm]; simp
  have hlen:l.length<=9223372036854775807:=by have:=HL.out; unfold maxLen at this; omega
  have HLM:=zd hlm;clear hlm;go_enter Tryz.func91,Tryz.ntmps91;go_wp2_with fail
  go_loopw [13] (fun i wr=>∃j:Nat,j<=l.length/\i=.int .i64 j/\eqL sEq l m=eqL sEq (l.drop j) (m.drop j)/\Below w.heap.size w wr) (fun i _=>l.length - (intOf i).toNat)
  case atStart=>exact⟨0,Nat.zero_le _,rfl,rfl,Below.refl _ _⟩
  case round=>
   obtain⟨j,hj,rfl,hq,hbl⟩:=hrel;have HBL:=zd hbl;have HQ:=zd hq;clear hq
   by_cases hlt:j<l.length
   ·have hlt':(j:Int)<(l.length:Int):=by omega
    have hltm:j<m.length:=by have:=HLM.out; omega
    have hltm':(j:Int)<(m.length:Int):=by omega
    obtain⟨_,b,off,rfl,hb,a0,_⟩:=HV.out.at hlt;obtain⟨_,b2,off2,rfl,hb2,b0,_⟩:=HU.out.at hltm;have hbk:=hS b hb;have hbk2:=hS b2 hb2;rw[Nat.mul_one] at a0 b0;have d0:=(hbl.cell (p:=⟨b,off+j,none⟩) hbk).trans a0;have e0:=(hbl.cell (p:=⟨b2,off2+j,none⟩) hbk2).trans b0;have HD:Hid (Below w.heap.size w wr.drew):=HBL.out.drew;have HS:Hid (eqL sEq l m=((l[j].toList==m[j].toList)&&eqL sEq (l.drop (j+1)) (m.drop (j+1)))):=HQ.out.trans (VZ hlt hltm);clear a0 b0 HV HU hbl HL HM;generalize l[j]=x at *;generalize m[j]=y at *
    cases hxy:(x.toList==y.toList) with
    |true=>
     go_wp2_with fail
     go_region
     all_goals
      go_wp2_with fail;exact⟨⟨j+1,by omega,by go_num,by rw[HS.out,hxy]; rfl,HD.out⟩,by simp[intOf]; omega⟩
    |false=>
     go_wp2_with fail
     go_region
     all_goals
      go_wp2_with fail;go_ret;exact⟨by rw[HS.out,hxy]; rfl,HD.out⟩
   ·have hnl:¬(j:Int)<(l.length:Int):=by omega
    have HE:Hid (eqL sEq l m=true):=HQ.out.trans (Ka (by omega) (by have:=HLM.out; omega));clear HV HU hbl;go_wp2_with fail;go_ret;exact⟨by rw[HE.out]; rfl,HBL.out⟩
 ·have hne:((l.length:Int) != (m.length:Int))=true:=by simpa using fun e:(l.length:Int)=m.length=>hlm (by omega)
  have HE:=zd (Vm (p:=sEq) hlm);clear hlm HV HU;go_enter Tryz.func91,Tryz.ntmps91;go_wp2_with fail;go_ret;exact⟨by rw[HE.out]; rfl,Below.refl _ _⟩
theorem zgr (S:Nat->Prop) (l m:List Kn) (v u:Value) (w:World) (hS:∀b,S b->b<w.heap.size) (hv:ze S (jp w) 2 l v) (hu:ze S (jp w) 2 m u) :
  Calls Tryz.prog 43 #[v,u] w fun e w'=>e=.returned (.bool (eqL ZP l m))/\Below w.heap.size w w':=by
 have HL:=zd (ze.len hv);have HM:=zd (ze.len hu);have HV:=zd hv;have HU:=zd hu;obtain⟨a,cap,rfl⟩:=hv.is;obtain⟨a2,cap2,rfl⟩:=hu.is;clear hv hu
 by_cases hlm:l.length=m.length
 ·have hne:((l.length:Int) != (m.length:Int))=false:=by rw[hlm]; simp
  have hlen:l.length<=9223372036854775807:=by have:=HL.out; unfold maxLen at this; omega
  have HLM:=zd hlm;clear hlm;go_enter Tryz.func43,Tryz.ntmps43;go_wp2_with fail
  go_loopw [13] (fun i wr=>∃j:Nat,j<=l.length/\i=.int .i64 j/\eqL ZP l m=eqL ZP (l.drop j) (m.drop j)/\Below w.heap.size w wr) (fun i _=>l.length - (intOf i).toNat)
  case atStart=>exact⟨0,Nat.zero_le _,rfl,rfl,Below.refl _ _⟩
  case round=>
   obtain⟨j,hj,rfl,hq,hbl⟩:=hrel;have HBL:=zd hbl;have HQ:=zd hq;clear hq
   by_cases hlt:j<l.length
   ·have hlt':(j:Int)<(l.length:Int):=by omega
    have hltm:j<m.length:=by have:=HLM.out; omega
    have hltm':(j:Int)<(m.length:Int):=by omega
    obtain⟨_,b,off,rfl,hb,⟨a0,_⟩,a1,_⟩:=HV.out.at hlt;obtain⟨_,b2,off2,rfl,hb2,⟨b0,_⟩,b1,_⟩:=HU.out.at hltm;have hbk:=hS b hb;have hbk2:=hS b2 hb2;have d0:=(hbl.cell (p:=⟨b,off+j * 2,none⟩) hbk).trans a0;have e0:=(hbl.cell (p:=⟨b2,off2+j * 2,none⟩) hbk2).trans b0;have d1:=(hbl.cell (p:=⟨b,off+j * 2+1,none⟩) hbk).trans a1;have e1:=(hbl.cell (p:=⟨b2,off2+j * 2+1,none⟩) hbk2).trans b1;have HD:Hid (Below w.heap.size w wr.drew):=HBL.out.drew;have HS:Hid (eqL ZP l m=(((l[j].name.toList==m[j].name.toList)&&(l[j].is.toList==m[j].is.toList))&&eqL ZP (l.drop (j+1)) (m.drop (j+1)))):=HQ.out.trans (VZ hlt hltm);clear a0 b0 a1 b1 HV HU hbl HL HM;generalize l[j].name=x at *;generalize m[j].name=y at *;generalize l[j].is=x' at *;generalize m[j].is=y' at *
    cases hxy:(x.toList==y.toList) with
    |true=>
     cases hxy':(x'.toList==y'.toList) with
     |true=>
      go_wp2_with fail
      go_region
      all_goals
       go_wp2_with fail;exact⟨⟨j+1,by omega,by go_num,by rw[HS.out,hxy,hxy']; rfl,HD.out⟩,by simp[intOf]; omega⟩
     |false=>
      go_wp2_with fail
      go_region
      all_goals
       go_wp2_with fail;go_ret;exact⟨by rw[HS.out,hxy,hxy']; rfl,HD.out⟩
    |false=>
     go_wp2_with fail
     go_region
     all_goals
      go_wp2_with fail;go_ret;exact⟨by rw[HS.out,hxy]; rfl,HD.out⟩
   ·have hnl:¬(j:Int)<(l.length:Int):=by omega
    have HE:Hid (eqL ZP l m=true):=HQ.out.trans (Ka (by omega) (by have:=HLM.out; omega));clear HV HU hbl;go_wp2_with fail;go_ret;exact⟨by rw[HE.out]; rfl,HBL.out⟩
 ·have hne:((l.length:Int) != (m.length:Int))=true:=by simpa using fun e:(l.length:Int)=m.length=>hlm (by omega)
  have HE:=zd (Vm (p:=ZP) hlm);clear hlm HV HU;go_enter Tryz.func43,Tryz.ntmps43;go_wp2_with fail;go_ret;exact⟨by rw[HE.out]; rfl,Below.refl _ _⟩
theorem XH {S:Nat->Prop} {w:World} {g:Sg} {b o:Nat} (h:ju S w g b o):∃a n cap,w.cell? ⟨b,o,none⟩=some (.string g.name)/\w.cell? ⟨b,o+1,none⟩=some (.slice a n cap)/\w.cell? ⟨b,o+2,none⟩=some (.string g.result)/\qB S w g (.agg #[.string g.name,.slice a n cap,.string g.result]):=by
 obtain⟨⟨h0,z0⟩,⟨v,hv,hp⟩,h1,z1⟩:=h;obtain⟨a,cap,rfl⟩:=hp.is;exact⟨a,_,cap,h0,hv,h1,_,rfl,z0,z1,hp⟩
theorem zbf (S:Nat->Prop) (g h:Sg) (v u:Value) (w:World) (hS:∀b,S b->b<w.heap.size) (hv:qB S w g v) (hu:qB S w h u) :
  Calls Tryz.prog 45 #[v,u] w fun e w'=>e=.returned (.bool (jU g h))/\Below w.heap.size w w':=by
 obtain⟨vp,rfl,hn,hr,hp⟩:=hv;obtain⟨vq,rfl,hn2,hr2,hp2⟩:=hu;obtain⟨a,cap,rfl⟩:=hp.is;obtain⟨a2,cap2,rfl⟩:=hp2.is;have HE:Hid (jU g h=((g.name.toList==h.name.toList)&&((g.result.toList==h.result.toList)&&eqL sEq g.params h.params))):=rfl;have HC:Hid (∀W:World,Below w.heap.size w W->Calls Tryz.prog 91 #[.slice a g.params.length cap,.slice a2 h.params.length cap2] W fun e w'=>e=.returned (.bool (eqL sEq g.params h.params))/\Below W.heap.size W w'):=fun W hW=>
  zeW S _ _ _ _ W (fun b hb=>Nat.lt_of_lt_of_le (hS b hb) hW.size) (zU (Keeps.below hW hS) hp) (zU (Keeps.below hW hS) hp2)
 have HB:Hid (∀x y,Below w.heap.size w ((w.alloc x).alloc y)):=fun x y=>((Below.refl _ _).alloc (Nat.le_refl _) _).alloc (by simp) _
 clear hp hp2;generalize eqL sEq g.params h.params=q at *;generalize g.params.length=n at *;generalize h.params.length=m at *;generalize g.name=x at *;generalize h.name=y at *;generalize g.result=x' at *;generalize h.result=y' at *
 cases hxy:(x.toList==y.toList) with
 |true=>
  cases hxy':(x'.toList==y'.toList) with
  |true=>
   go_enter Tryz.func45,Tryz.ntmps45;go_wp2_with fail;refine (HC.out _ (HB.out _ _)).mono ?_;rintro e w' ⟨rfl,hb⟩;have HB':=zd ((HB.out _ _).trans (hb.mono (by simp; omega)));clear hb;go_wp2_with fail;go_ret;exact⟨by rw[HE.out,hxy,hxy']; rfl,HB'.out⟩
  |false=>
   go_enter Tryz.func45,Tryz.ntmps45;go_wp2_with fail;go_ret;exact⟨by rw[HE.out,hxy,hxy']; rfl,HB.out _ _⟩
 |false=>
  go_enter Tryz.func45,Tryz.ntmps45;go_wp2_with fail;go_ret;exact⟨by rw[HE.out,hxy]; rfl,HB.out _ _⟩
theorem zgs (S:Nat->Prop) (l m:List Sg) (v u:Value) (w:World) (hS:∀b,S b->b<w.heap.size) (hv:ze S (ju S w) 3 l v) (hu:ze S (ju S w) 3 m u) :
  Calls Tryz.prog 44 #[v,u,.func (.func 45) #[] #[]] w fun e w'=>e=.returned (.bool (eqL jU l m))/\Below w.heap.size w w':=by
 have HL:=zd (ze.len hv);have HM:=zd (ze.len hu);have HV:=zd hv;have HU:=zd hu;obtain⟨a,cap,rfl⟩:=hv.is;obtain⟨a2,cap2,rfl⟩:=hu.is;clear hv hu
 by_cases hlm:l.length=m.length
 ·have hne:((l.length:Int) != (m.length:Int))=false:=by rw[hlm]; simp
  have hlen:l.length<=9223372036854775807:=by have:=HL.out; unfold maxLen at this; omega
  have HLM:=zd hlm;clear hlm;go_enter Tryz.func44,Tryz.ntmps44;go_wp2_with fail
  go_loopw [17] (fun i wr=>∃j:Nat,j<=l.length/\i=.int .i64 j/\eqL jU l m=eqL jU (l.drop j) (m.drop j)/\Below w.heap.size w wr) (fun i _=>l.length - (intOf i).toNat)
  case atStart=>exact⟨0,Nat.zero_le _,rfl,rfl,Below.refl _ _⟩
  case round=>
   obtain⟨j,hj,rfl,hq,hbl⟩:=hrel;have HBL:=zd hbl;have HQ:=zd hq;clear hq
   by_cases hlt:j<l.length
   ·have hlt':(j:Int)<(l.length:Int):=by omega
    have hltm:j<m.length:=by have:=HLM.out; omega
    have hltm':(j:Int)<(m.length:Int):=by omega
    obtain⟨_,b,off,rfl,hb,hat⟩:=HV.out.at hlt;obtain⟨_,b2,off2,rfl,hb2,hat2⟩:=HU.out.at hltm;have hbk:=hS b hb;have hbk2:=hS b2 hb2;obtain⟨p1,p2,p3,a0,a1,a2',hsg⟩:=XH hat;obtain⟨q1,q2,q3,b0,b1,b2',hsg2⟩:=XH hat2;have d0:=(hbl.cell (p:=⟨b,off+j * 3,none⟩) hbk).trans a0;have d1:=(hbl.cell (p:=⟨b,off+j * 3+1,none⟩) hbk).trans a1;have d2:=(hbl.cell (p:=⟨b,off+j * 3+2,none⟩) hbk).trans a2';have e0:=(hbl.cell (p:=⟨b2,off2+j * 3,none⟩) hbk2).trans b0;have e1:=(hbl.cell (p:=⟨b2,off2+j * 3+1,none⟩) hbk2).trans b1;have e2:=(hbl.cell (p:=⟨b2,off2+j * 3+2,none⟩) hbk2).trans b2';have hszr:=hbl.size;have hbr:b<wr.heap.size:=by omega
    have hbr2:b2<wr.heap.size:=by omega
    have HC:Hid (∀W:World,Below w.heap.size w W->Calls Tryz.prog 45 #[.agg #[.string l[j].name,.slice p1 p2 p3,.string l[j].result],.agg #[.string m[j].name,.slice q1 q2 q3,.string m[j].result]] W fun e w'=>e=.returned (.bool (jU l[j] m[j]))/\Below W.heap.size W w'):=fun W hW=>
     zbf S _ _ _ _ W (fun b hb=>Nat.lt_of_lt_of_le (hS b hb) hW.size) (hsg.keep (Keeps.below hW hS)) (hsg2.keep (Keeps.below hW hS))
    have HS:Hid (eqL jU l m=(jU l[j] m[j]&&eqL jU (l.drop (j+1)) (m.drop (j+1)))):=HQ.out.trans (VZ hlt hltm);have HB2:Hid (∀x y,Below w.heap.size w ((wr.alloc x).alloc y)):=fun x y=>(HBL.out.alloc (by omega) _).alloc (by simp; omega) _
    clear a0 a1 a2' b0 b1 b2' HV HU hbl HL HM hat hat2 hsg hsg2;generalize jU l[j] m[j]=same at *;generalize l[j].name=x at *;generalize m[j].name=y at *;generalize l[j].result=x' at *;generalize m[j].result=y' at *
    cases same with
    |true=>
     go_wp2_with fail;refine (HC.out _ (HB2.out _ _)).mono ?_;rintro e w' ⟨rfl,hb'⟩;have HB':=zd ((HB2.out _ _).trans (hb'.mono (by simp; omega)));clear hb';go_wp2_with fail;exact⟨⟨j+1,by omega,by go_num,by rw[HS.out]; rfl,HB'.out⟩,by simp[intOf]; omega⟩
    |false=>
     go_wp2_with fail;refine (HC.out _ (HB2.out _ _)).mono ?_;rintro e w' ⟨rfl,hb'⟩;have HB':=zd ((HB2.out _ _).trans (hb'.mono (by simp; omega)));clear hb';go_wp2_with fail;go_ret;exact⟨by rw[HS.out]; rfl,HB'.out⟩
   ·have hnl:¬(j:Int)<(l.length:Int):=by omega
    have HE:Hid (eqL jU l m=true):=HQ.out.trans (Ka (by omega) (by have:=HLM.out; omega));clear HV HU hbl;go_wp2_with fail;go_ret;exact⟨by rw[HE.out]; rfl,HBL.out⟩
 ·have hne:((l.length:Int) != (m.length:Int))=true:=by simpa using fun e:(l.length:Int)=m.length=>hlm (by omega)
  have HE:=zd (Vm (p:=jU) hlm);clear hlm HV HU;go_enter Tryz.func44,Tryz.ntmps44;go_wp2_with fail;go_ret;exact⟨by rw[HE.out]; rfl,Below.refl _ _⟩
theorem zeX (S:Nat->Prop) (f g:Fc) (v u:Value) (w:World) (hS:∀b,S b->b<w.heap.size) (hv:qC S w f v) (hu:qC S w g u) :
  Calls Tryz.prog 15 #[v,u] w fun e w'=>e=.returned (.bool (zdx f g))/\Below w.heap.size w w':=by
 obtain⟨vt,vf,rfl,ht,hf⟩:=hv;obtain⟨ut,uf,rfl,kt,kf⟩:=hu;have HE:Hid (zdx f g=(eqL ZP f.types g.types&&eqL jU f.funcs g.funcs)):=rfl;have HC:Hid (∀W:World,Below w.heap.size w W->Calls Tryz.prog 43 #[vt,ut] W fun e w'=>e=.returned (.bool (eqL ZP f.types g.types))/\Below W.heap.size W w'):=fun W hW=>
  zgr S _ _ _ _ W (fun b hb=>Nat.lt_of_lt_of_le (hS b hb) hW.size) (vj (Keeps.below hW hS) ht) (vj (Keeps.below hW hS) kt)
 have HD:Hid (∀W:World,Below w.heap.size w W->Calls Tryz.prog 44 #[vf,uf,.func (.func 45) #[] #[]] W fun e w'=>e=.returned (.bool (eqL jU f.funcs g.funcs))/\Below W.heap.size W w'):=fun W hW=>
  zgs S _ _ _ _ W (fun b hb=>Nat.lt_of_lt_of_le (hS b hb) hW.size) (yO (Keeps.below hW hS) hf) (yO (Keeps.below hW hS) kf)
 obtain⟨a,n,cap,rfl⟩:=ht.slice;obtain⟨a2,n2,cap2,rfl⟩:=hf.slice;obtain⟨a3,n3,cap3,rfl⟩:=kt.slice;obtain⟨a4,n4,cap4,rfl⟩:=kf.slice;have HB:Hid (∀x y,Below w.heap.size w ((w.alloc x).alloc y)):=fun x y=>((Below.refl _ _).alloc (Nat.le_refl _) _).alloc (by simp) _
 clear ht hf kt kf hS;generalize eqL ZP f.types g.types=p at *;generalize eqL jU f.funcs g.funcs=q at *
 cases p with
 |true=>
  go_enter Tryz.func15,Tryz.ntmps15;go_wp2_with fail;refine (HC.out _ (HB.out _ _)).mono ?_;rintro e w' ⟨rfl,hb⟩;have HB':=zd ((HB.out _ _).trans (hb.mono (by simp; omega)));obtain⟨hc,hfz⟩:(∀b o,b<w.heap.size+2->w'.cell? ⟨b,o,none⟩=((w.alloc (.cells #[.slice a n cap,.slice a2 n2 cap2] 26)).alloc (.cells #[.slice a3 n3 cap3,.slice a4 n4 cap4] 26)).cell? ⟨b,o,none⟩)/\True:=⟨fun b o h=>hb.cell (p:=⟨b,o,none⟩) (by show b<_; simp; omega),trivial⟩
  have hsz:w.heap.size+1<w'.heap.size:=by have:=hb.size; simp at this; omega
  clear hb;go_wp2_with fail;refine (HD.out _ HB'.out).mono ?_;rintro e w2 ⟨rfl,hb2⟩;have HB2:=zd (HB'.out.trans (hb2.mono HB'.out.size));clear hb2;go_wp2_with fail;go_ret;exact⟨by rw[HE.out]; rfl,HB2.out⟩
 |false=>
  go_enter Tryz.func15,Tryz.ntmps15;go_wp2_with fail;refine (HC.out _ (HB.out _ _)).mono ?_;rintro e w' ⟨rfl,hb⟩;have HB':=zd ((HB.out _ _).trans (hb.mono (by simp; omega)));clear hb;go_wp2_with fail;go_ret;exact⟨by rw[HE.out]; rfl,HB'.out⟩
def zj {α:Type} (p:α->Bool):List α->Nat
 |[]=>0
 |x::r=>if p x=true then 0 else zj p r+1
theorem jG {α:Type} {p:α->Bool} {l:List α} {k:Nat} (hk:k<l.length) (h:p l[k]=true):zj p (l.drop k)=0:=by
 rw[List.drop_eq_getElem_cons hk,zj,if_pos h]
theorem kq {α:Type} {p:α->Bool} {l:List α} {k:Nat} (hk:k<l.length) (h:p l[k]=false):zj p (l.drop k)=zj p (l.drop (k+1))+1:=by
 rw[List.drop_eq_getElem_cons hk,zj,if_neg (by rw[h]; simp)]
theorem jH {α:Type} {p:α->Bool} {l:List α} {k:Nat} (hk:l.length<=k):zj p (l.drop k)=0:=by
 rw[List.drop_eq_nil_of_le hk,zj]
def zC {α:Type} (p:α->Bool) (l:List α):Int:=if zj p l<l.length then (zj p l:Int) else -1
theorem zdC (B:Nat) (x y s:ByteArray) (w:World) (hp:w.cell? ⟨B,0,none⟩=some (.string s)) :
  Calls Tryz.prog 318 #[.agg #[.string x,.string y],.pointer (some ⟨B,0,none⟩)] w fun e w'=>e=.returned (.bool (sEq x s))/\Below w.heap.size w w':=by
 have hlt:B<w.heap.size:=World.block_lt_of_cell? _ _ hp;have HE:Hid (sEq x s=(x.toList==s.toList)):=rfl;go_enter Tryz.func318,Tryz.ntmps318
 go_wp2
 go_ret;exact⟨by rw[HE.out]; rfl,(Below.refl _ _).alloc (Nat.le_refl _) _⟩
theorem zdD (B:Nat) (x y s:ByteArray) (a:Option Addr) (n cap:Nat) (w:World) (hp:w.cell? ⟨B,0,none⟩=some (.string s)) :
  Calls Tryz.prog 300 #[.agg #[.string x,.slice a n cap,.string y],.pointer (some ⟨B,0,none⟩)] w fun e w'=>e=.returned (.bool (sEq x s))/\Below w.heap.size w w':=by
 have hlt:B<w.heap.size:=World.block_lt_of_cell? _ _ hp;have HE:Hid (sEq x s=(x.toList==s.toList)):=rfl;go_enter Tryz.func300,Tryz.ntmps300
 go_wp2
 go_ret;exact⟨by rw[HE.out]; rfl,(Below.refl _ _).alloc (Nat.le_refl _) _⟩
theorem zgt (S:Nat->Prop) (l:List Kn) (s:ByteArray) (B:Nat) (v:Value) (w:World) (hS:∀b,S b->b<w.heap.size) (hv:ze S (jp w) 2 l v) (hp:w.cell? ⟨B,0,none⟩=some (.string s)) :
  Calls Tryz.prog 317 #[v,.func (.func 318) #[] #[.pointer (some ⟨B,0,none⟩)]] w fun e w'=>e=.returned (.int .i64 (zC (fun k:Kn=>sEq k.name s) l))/\Below w.heap.size w w':=by
 have HV:=zd hv;have hlen:=hv.len;unfold maxLen at hlen;obtain⟨a,cap,rfl⟩:=hv.is;have HP:=zd hp;have HBl:=zd (World.block_lt_of_cell? _ _ hp);clear hv hp;go_enter Tryz.func317,Tryz.ntmps317;go_wp2_with fail
 go_loopw [8] (fun i wr=>∃j:Nat,j<=l.length/\i=.int .i64 j/\zj (fun k:Kn=>sEq k.name s) l=j+zj (fun k:Kn=>sEq k.name s) (l.drop j)/\Below w.heap.size w wr) (fun i _=>l.length - (intOf i).toNat)
 case atStart=>exact⟨0,Nat.zero_le _,rfl,(Nat.zero_add _).symm,Below.refl _ _⟩
 case round=>
  obtain⟨j,hj,rfl,hq,hbl⟩:=hrel;have HQ:=zd hq;have HBW:=zd hbl;clear hq
  by_cases hlt:j<l.length
  ·have hlt':(j:Int)<(l.length:Int):=by omega
   obtain⟨_,b,off,rfl,hb,⟨a0,m0⟩,a1,m1⟩:=HV.out.at hlt;have hbk:=hS b hb;have d0:=(hbl.cell (p:=⟨b,off+j * 2,none⟩) hbk).trans a0;have d1:=(hbl.cell (p:=⟨b,off+j * 2+1,none⟩) hbk).trans a1;have HC:Hid (Calls Tryz.prog 318 #[.agg #[.string l[j].name,.string l[j].is],.pointer (some ⟨B,0,none⟩)] wr fun e w'=>e=.returned (.bool (sEq l[j].name s))/\Below wr.heap.size wr w'):=zdC B _ _ s wr ((hbl.cell HBl.out).trans HP.out);have HYes:Hid (sEq l[j].name s=true->zj (fun k:Kn=>sEq k.name s) l=j):=fun h=>by
    rw[HQ.out,jG hlt h]; rfl
   have HNo:Hid (sEq l[j].name s=false->zj (fun k:Kn=>sEq k.name s) l=(j+1)+zj (fun k:Kn=>sEq k.name s) (l.drop (j+1))):=fun h=>by
    rw[HQ.out,kq hlt h]; omega
   clear a0 a1 m0 m1 HV hbl HQ;generalize l[j].name=x at *;generalize l[j].is=y at *
   cases hx:sEq x s with
   |true=>
    rw[hx] at HC;have HI:Hid (zC (fun k:Kn=>sEq k.name s) l=(j:Int)):=by
     show _=_;unfold zC;rw[HYes.out hx,if_pos hlt]
    clear HYes HNo hx;go_wp2_with fail;refine HC.out.mono ?_;rintro e w1 ⟨rfl,hb1⟩;have HB1:=zd (HBW.out.trans (hb1.mono HBW.out.size));clear hb1;go_wp2_with fail;go_ret;exact⟨by rw[HI.out]; rfl,HB1.out⟩
   |false=>
    rw[hx] at HC;have HN:=zd (HNo.out hx);clear HYes HNo hx;go_wp2_with fail;refine HC.out.mono ?_;rintro e w1 ⟨rfl,hb1⟩;have HB1:=zd (HBW.out.trans (hb1.mono HBW.out.size));clear hb1;go_wp2_with fail;exact⟨⟨j+1,by omega,by go_num,HN.out,HB1.out⟩,by simp[intOf]; omega⟩
  ·have hnl:¬(j:Int)<(l.length:Int):=by omega
   have HI:Hid (zC (fun k:Kn=>sEq k.name s) l=-1):=by
    show _=_;unfold zC;rw[HQ.out,jH (by omega),if_neg (by omega)]
   clear HV hbl HQ;go_wp2_with fail;go_ret;exact⟨by rw[HI.out]; rfl,HBW.out⟩
theorem zgu (S:Nat->Prop) (l:List Sg) (s:ByteArray) (B:Nat) (v:Value) (w:World) (hS:∀b,S b->b<w.heap.size) (hv:ze S (ju S w) 3 l v) (hp:w.cell? ⟨B,0,none⟩=some (.string s)) :
  Calls Tryz.prog 299 #[v,.func (.func 300) #[] #[.pointer (some ⟨B,0,none⟩)]] w fun e w'=>e=.returned (.int .i64 (zC (fun k:Sg=>sEq k.name s) l))/\Below w.heap.size w w':=by
 have HV:=zd hv;have hlen:=hv.len;unfold maxLen at hlen;obtain⟨a,cap,rfl⟩:=hv.is;have HP:=zd hp;have HBl:=zd (World.block_lt_of_cell? _ _ hp);clear hv hp;go_enter Tryz.func299,Tryz.ntmps299;go_wp2_with fail
 go_loopw [8] (fun i wr=>∃j:Nat,j<=l.length/\i=.int .i64 j/\zj (fun k:Sg=>sEq k.name s) l=j+zj (fun k:Sg=>sEq k.name s) (l.drop j)/\Below w.heap.size w wr) (fun i _=>l.length - (intOf i).toNat)
 case atStart=>exact⟨0,Nat.zero_le _,rfl,(Nat.zero_add _).symm,Below.refl _ _⟩
 case round=>
  obtain⟨j,hj,rfl,hq,hbl⟩:=hrel;have HQ:=zd hq;have HBW:=zd hbl;clear hq
  by_cases hlt:j<l.length
  ·have hlt':(j:Int)<(l.length:Int):=by omega
   obtain⟨_,b,off,rfl,hb,hat⟩:=HV.out.at hlt;have hbk:=hS b hb;obtain⟨p1,p2,p3,a0,a1,a2,_⟩:=XH hat;have d0:=(hbl.cell (p:=⟨b,off+j * 3,none⟩) hbk).trans a0;have d1:=(hbl.cell (p:=⟨b,off+j * 3+1,none⟩) hbk).trans a1;have d2:=(hbl.cell (p:=⟨b,off+j * 3+2,none⟩) hbk).trans a2;have HC:Hid (Calls Tryz.prog 300 #[.agg #[.string l[j].name,.slice p1 p2 p3,.string l[j].result],.pointer (some ⟨B,0,none⟩)] wr fun e w'=>e=.returned (.bool (sEq l[j].name s))/\Below wr.heap.size wr w'):=zdD B _ _ s _ _ _ wr ((hbl.cell HBl.out).trans HP.out);have HYes:Hid (sEq l[j].name s=true->zj (fun k:Sg=>sEq k.name s) l=j):=fun h=>by
    rw[HQ.out,jG hlt h]; rfl
   have HNo:Hid (sEq l[j].name s=false->zj (fun k:Sg=>sEq k.name s) l=(j+1)+zj (fun k:Sg=>sEq k.name s) (l.drop (j+1))):=fun h=>by
    rw[HQ.out,kq hlt h]; omega
   clear a0 a1 a2 hat HV hbl HQ;generalize l[j].name=x at *;generalize l[j].result=y at *
   cases hx:sEq x s with
   |true=>
    rw[hx] at HC;have HI:Hid (zC (fun k:Sg=>sEq k.name s) l=(j:Int)):=by
     show _=_;unfold zC;rw[HYes.out hx,if_pos hlt]
    clear HYes HNo hx;go_wp2_with fail;refine HC.out.mono ?_;rintro e w1 ⟨rfl,hb1⟩;have HB1:=zd (HBW.out.trans (hb1.mono HBW.out.size));clear hb1;go_wp2_with fail;go_ret;exact⟨by rw[HI.out]; rfl,HB1.out⟩
   |false=>
    rw[hx] at HC;have HN:=zd (HNo.out hx);clear HYes HNo hx;go_wp2_with fail;refine HC.out.mono ?_;rintro e w1 ⟨rfl,hb1⟩;have HB1:=zd (HBW.out.trans (hb1.mono HBW.out.size));clear hb1;go_wp2_with fail;exact⟨⟨j+1,by omega,by go_num,HN.out,HB1.out⟩,by simp[intOf]; omega⟩
  ·have hnl:¬(j:Int)<(l.length:Int):=by omega
   have HI:Hid (zC (fun k:Sg=>sEq k.name s) l=-1):=by
    show _=_;unfold zC;rw[HQ.out,jH (by omega),if_neg (by omega)]
   clear HV hbl HQ;go_wp2_with fail;go_ret;exact⟨by rw[HI.out]; rfl,HBW.out⟩
theorem zbg (s x:ByteArray):(s.toList==x.toList)=(x.toList==s.toList):=by
 rw[Bool.eq_iff_iff,beq_iff_eq,beq_iff_eq];exact eq_comm
def qu (l:List ByteArray) (s:ByteArray):Bool:=decide (zj (fun x=>sEq x s) l<l.length)
theorem zeY (S:Nat->Prop) (l:List ByteArray) (s:ByteArray) (v:Value) (w:World) (hS:∀b,S b->b<w.heap.size) (hv:ze S (zG w) 1 l v) :
  Calls Tryz.prog 264 #[v,.string s] w fun e w'=>e=.returned (.int .i64 (zC (fun x=>sEq x s) l))/\Below w.heap.size w w':=by
 have HV:=zd hv;have hlen:=hv.len;unfold maxLen at hlen;obtain⟨a,cap,rfl⟩:=hv.is;clear hv;go_enter Tryz.func264,Tryz.ntmps264;go_wp2_with fail
 go_loopw [8] (fun i wr=>∃j:Nat,j<=l.length/\i=.int .i64 j/\zj (fun x=>sEq x s) l=j+zj (fun x=>sEq x s) (l.drop j)/\Below w.heap.size w wr) (fun i _=>l.length - (intOf i).toNat)
 case atStart=>exact⟨0,Nat.zero_le _,rfl,(Nat.zero_add _).symm,Below.refl _ _⟩
 case round=>
  obtain⟨j,hj,rfl,hq,hbl⟩:=hrel;have HQ:=zd hq;have HBW:=zd hbl;clear hq
  by_cases hlt:j<l.length
  ·have hlt':(j:Int)<(l.length:Int):=by omega
   obtain⟨_,b,off,rfl,hb,a0,m0⟩:=HV.out.at hlt;have hbk:=hS b hb;rw[Nat.mul_one] at a0;have d0:=(hbl.cell (p:=⟨b,off+j,none⟩) hbk).trans a0;have HYes:Hid ((s.toList==l[j].toList)=true->zj (fun x=>sEq x s) l=j):=fun h=>by
    rw[zbg] at h;rw[HQ.out,jG hlt h]; rfl
   have HNo:Hid ((s.toList==l[j].toList)=false->zj (fun x=>sEq x s) l=(j+1)+zj (fun x=>sEq x s) (l.drop (j+1))):=fun h=>by
    rw[zbg] at h;rw[HQ.out,kq hlt h]; omega
   clear a0 m0 HV hbl HQ;generalize l[j]=x at *
   cases hx:(s.toList==x.toList) with
   |true=>
    have HI:Hid (zC (fun x=>sEq x s) l=(j:Int)):=by
     show _=_;unfold zC;rw[HYes.out hx,if_pos hlt]
    clear HYes HNo;go_wp2_with fail;go_ret;exact⟨by rw[HI.out]; rfl,HBW.out⟩
   |false=>
    have HN:=zd (HNo.out hx);clear HYes HNo;go_wp2_with fail;exact⟨⟨j+1,by omega,by go_num,HN.out,HBW.out⟩,by simp[intOf]; omega⟩
  ·have hnl:¬(j:Int)<(l.length:Int):=by omega
   have HI:Hid (zC (fun x=>sEq x s) l=-1):=by
    show _=_;unfold zC;rw[HQ.out,jH (by omega),if_neg (by omega)]
   clear HV hbl HQ;go_wp2_with fail;go_ret;exact⟨by rw[HI.out]; rfl,HBW.out⟩
theorem YO (S:Nat->Prop) (l:List ByteArray) (s:ByteArray) (v:Value) (w:World) (hS:∀b,S b->b<w.heap.size) (hv:ze S (zG w) 1 l v) :
  Calls Tryz.prog 191 #[v,.string s] w fun e w'=>e=.returned (.bool (qu l s))/\Below w.heap.size w w':=by
 have HC:Hid (Calls Tryz.prog 264 #[v,.string s] w fun e w'=>e=.returned (.int .i64 (zC (fun x=>sEq x s) l))/\Below w.heap.size w w'):=zeY S l s v w hS hv;have hE:decide (0<=zC (fun x=>sEq x s) l)=qu l s:=by
  unfold zC qu
  by_cases h:zj (fun x=>sEq x s) l<l.length
  ·rw[if_pos h]; simp[h]
  ·rw[if_neg h]; simp[h]
 have HE:=zd hE;obtain⟨a,cap,rfl⟩:=hv.is;clear hv hE;generalize zC (fun x=>sEq x s) l=r at *;go_enter Tryz.func191,Tryz.ntmps191;go_wp2_with fail;refine HC.out.mono ?_;rintro e w1 ⟨rfl,hb1⟩;have HB1:=zd hb1;clear hb1;go_wp2_with fail;go_ret;exact⟨by rw[<- HE.out]; rfl,HB1.out⟩
theorem zeZ (B:Nat) (x s:ByteArray) (y:Bool) (a:Option Addr) (n cap:Nat) (a2:Option Addr) (n2 cap2:Nat) (w:World) (hp:w.cell? ⟨B,0,none⟩=some (.string s)) :
  Calls Tryz.prog 266 #[.agg #[.string x,.bool y,.slice a n cap,.slice a2 n2 cap2],.pointer (some ⟨B,0,none⟩)] w fun e w'=>e=.returned (.bool (sEq x s))/\Below w.heap.size w w':=by
 have hlt:B<w.heap.size:=World.block_lt_of_cell? _ _ hp;have HE:Hid (sEq x s=(x.toList==s.toList)):=rfl;go_enter Tryz.func266,Tryz.ntmps266
 go_wp2
 go_ret;exact⟨by rw[HE.out]; rfl,(Below.refl _ _).alloc (Nat.le_refl _) _⟩
theorem zbh {S:Nat->Prop} {w:World} {i:Im} {b o:Nat} (h:yd S w i b o):∃a n cap a2 n2 cap2,w.cell? ⟨b,o,none⟩=some (.string i.name)/\w.cell? ⟨b,o+1,none⟩=some (.bool i.there)/\w.cell? ⟨b,o+2,none⟩=some (.slice a n cap)/\w.cell? ⟨b,o+3,none⟩=some (.slice a2 n2 cap2)/\qC S w i.face (.agg #[.slice a n cap,.slice a2 n2 cap2]):=by
 obtain⟨⟨h0,_⟩,h1,vt,vf,h2,h3,hc⟩:=h;obtain⟨a,n,cap,rfl⟩:=hc.1.slice;obtain⟨a2,n2,cap2,rfl⟩:=hc.2.slice;exact⟨a,n,cap,a2,n2,cap2,h0,h1,h2,h3,_,_,rfl,hc⟩
theorem zgv (S:Nat->Prop) (l:List Im) (s:ByteArray) (B:Nat) (v:Value) (w:World) (hS:∀b,S b->b<w.heap.size) (hv:ze S (yd S w) 4 l v) (hp:w.cell? ⟨B,0,none⟩=some (.string s)) :
  Calls Tryz.prog 265 #[v,.func (.func 266) #[] #[.pointer (some ⟨B,0,none⟩)]] w fun e w'=>e=.returned (.int .i64 (zC (fun k:Im=>sEq k.name s) l))/\Below w.heap.size w w':=by
 have HV:=zd hv;have hlen:=hv.len;unfold maxLen at hlen;obtain⟨a,cap,rfl⟩:=hv.is;have HP:=zd hp;have HBl:=zd (World.block_lt_of_cell? _ _ hp);clear hv hp;go_enter Tryz.func265,Tryz.ntmps265;go_wp2_with fail
 go_loopw [8] (fun i wr=>∃j:Nat,j<=l.length/\i=.int .i64 j/\zj (fun k:Im=>sEq k.name s) l=j+zj (fun k:Im=>sEq k.name s) (l.drop j)/\Below w.heap.size w wr) (fun i _=>l.length - (intOf i).toNat)
 case atStart=>exact⟨0,Nat.zero_le _,rfl,(Nat.zero_add _).symm,Below.refl _ _⟩
 case round=>
  obtain⟨j,hj,rfl,hq,hbl⟩:=hrel;have HQ:=zd hq;have HBW:=zd hbl;clear hq
  by_cases hlt:j<l.length
  ·have hlt':(j:Int)<(l.length:Int):=by omega
   obtain⟨_,b,off,rfl,hb,hat⟩:=HV.out.at hlt;have hbk:=hS b hb;obtain⟨p1,p2,p3,q1,q2,q3,a0,a1,a2,a3,_⟩:=zbh hat;have d0:=(hbl.cell (p:=⟨b,off+j * 4,none⟩) hbk).trans a0;have d1:=(hbl.cell (p:=⟨b,off+j * 4+1,none⟩) hbk).trans a1;have d2:=(hbl.cell (p:=⟨b,off+j * 4+2,none⟩) hbk).trans a2;have d3:=(hbl.cell (p:=⟨b,off+j * 4+3,none⟩) hbk).trans a3;have HC:Hid (Calls Tryz.prog 266 #[.agg #[.string l[j].name,.bool l[j].there,.slice p1 p2 p3,.slice q1 q2 q3],.pointer (some ⟨B,0,none⟩)] wr fun e w'=>e=.returned (.bool (sEq l[j].name s))/\Below wr.heap.size wr w'):=zeZ B _ s _ _ _ _ _ _ _ wr ((hbl.cell HBl.out).trans HP.out);have HYes:Hid (sEq l[j].name s=true->zj (fun k:Im=>sEq k.name s) l=j):=fun h=>by
    rw[HQ.out,jG hlt h]; rfl
   have HNo:Hid (sEq l[j].name s=false->zj (fun k:Im=>sEq k.name s) l=(j+1)+zj (fun k:Im=>sEq k.name s) (l.drop (j+1))):=fun h=>by
    rw[HQ.out,kq hlt h]; omega
   clear a0 a1 a2 a3 hat HV hbl HQ;generalize l[j].name=x at *;generalize l[j].there=y at *
   cases hx:sEq x s with
   |true=>
    rw[hx] at HC;have HI:Hid (zC (fun k:Im=>sEq k.name s) l=(j:Int)):=by
     show _=_;unfold zC;rw[HYes.out hx,if_pos hlt]
    clear HYes HNo hx;go_wp2_with fail;refine HC.out.mono ?_;rintro e w1 ⟨rfl,hb1⟩;have HB1:=zd (HBW.out.trans (hb1.mono HBW.out.size));clear hb1;go_wp2_with fail;go_ret;exact⟨by rw[HI.out]; rfl,HB1.out⟩
   |false=>
    rw[hx] at HC;have HN:=zd (HNo.out hx);clear HYes HNo hx;go_wp2_with fail;refine HC.out.mono ?_;rintro e w1 ⟨rfl,hb1⟩;have HB1:=zd (HBW.out.trans (hb1.mono HBW.out.size));clear hb1;go_wp2_with fail;exact⟨⟨j+1,by omega,by go_num,HN.out,HB1.out⟩,by simp[intOf]; omega⟩
  ·have hnl:¬(j:Int)<(l.length:Int):=by omega
   have HI:Hid (zC (fun k:Im=>sEq k.name s) l=-1):=by
    show _=_;unfold zC;rw[HQ.out,jH (by omega),if_neg (by omega)]
   clear HV hbl HQ;go_wp2_with fail;go_ret;exact⟨by rw[HI.out]; rfl,HBW.out⟩
end Go.Proofs.YtedpiamfpbdhoaaGreatDoor
