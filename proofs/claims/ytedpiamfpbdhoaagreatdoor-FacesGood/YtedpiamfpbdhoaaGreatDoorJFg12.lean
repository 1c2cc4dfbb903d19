import Derived.Test.YtedpiamfpbdhoaaGreatDoorJFg11
set_option maxHeartbeats 40000000
set_option maxRecDepth 100000
namespace Go.Proofs.YtedpiamfpbdhoaaGreatDoor
open Go.RowKit
def zeL:Array Oper:=#[⟨some 144,Op.fieldAddr 70 (Operand.tmp 12) 4,0,"raw.go:80",#[],none⟩,
  ⟨some 145,Op.load 68 (Operand.tmp 144),68,"raw.go:80",#[⟨0,.data⟩],none⟩,
  ⟨some 146,Op.move (Operand.tmp 9),34,"raw.go:80",#[],none⟩,
  ⟨some 147,Op.move (Operand.tmp 10),34,"raw.go:80",#[],none⟩,
  ⟨some 148,Op.buildSlice 151 2 #[(0,Operand.tmp 146),(1,Operand.tmp 147)],151,"raw.go:80",#[⟨2,.data⟩,⟨3,.data⟩],none⟩,
  ⟨some 149,Op.move (Operand.tmp 13),3,"raw.go:80",#[],none⟩,
  ⟨some 150,Op.indexAddr 151 (Operand.tmp 148) (Operand.tmp 149),0,"raw.go:80",#[⟨4,.data⟩,⟨5,.data⟩],none⟩,
  ⟨some 151,Op.load 34 (Operand.tmp 150),34,"raw.go:80",#[⟨6,.data⟩],none⟩,
  ⟨some 152,Op.move (Operand.tmp 1),38,"raw.go:80",#[],none⟩,
  ⟨some 153,Op.move (Operand.tmp 2),3,"raw.go:80",#[],none⟩,
  ⟨some 154,Op.binOp BinOp.add 3 (Operand.tmp 153) (Operand.const (Value.int IntKind.i64 1)) 3,3,"raw.go:80",#[⟨9,.data⟩],none⟩,
  ⟨some 155,Op.call { callee:=Callee.value (Operand.func 34),args:=#[Operand.tmp 151,Operand.tmp 152,Operand.tmp 154],argTypes:=#[34,38,3] },70,"raw.go:80",#[⟨7,.data⟩,⟨8,.data⟩,⟨10,.data⟩],none⟩,
  ⟨some 156,Op.buildSlice 68 1 #[(0,Operand.tmp 155)],68,"raw.go:80",#[⟨11,.data⟩],none⟩,
  ⟨some 157,Op.call { callee:=Callee.builtin Builtin.append,args:=#[Operand.tmp 145,Operand.tmp 156],argTypes:=#[68,68] },68,"raw.go:80",#[⟨1,.data⟩,⟨12,.data⟩,⟨11,.chain⟩],none⟩,
  ⟨some 158,Op.fieldAddr 70 (Operand.tmp 12) 4,0,"raw.go:80",#[⟨0,.phase⟩,⟨1,.phase⟩,⟨2,.phase⟩,⟨3,.phase⟩,⟨4,.phase⟩,⟨5,.phase⟩,⟨6,.phase⟩,⟨7,.phase⟩,⟨8,.phase⟩,⟨9,.phase⟩,⟨10,.phase⟩,⟨11,.phase⟩,⟨12,.phase⟩,⟨13,.phase⟩],none⟩,
  ⟨none,Op.store 68 (Operand.tmp 158) (Operand.tmp 157),0,"raw.go:80",#[⟨14,.data⟩,⟨13,.data⟩,⟨13,.chain⟩,⟨0,.phase⟩,⟨1,.phase⟩,⟨2,.phase⟩,⟨3,.phase⟩,⟨4,.phase⟩,⟨5,.phase⟩,⟨6,.phase⟩,⟨7,.phase⟩,⟨8,.phase⟩,⟨9,.phase⟩,⟨10,.phase⟩,⟨11,.phase⟩,⟨12,.phase⟩,⟨13,.phase⟩],none⟩]
theorem Zh {base:Nat} {T:TypeId} {c n:Nat} {v:Value} {ys:List Value} {W W':World} (h:W.ownsRow base T c v n ys) (hm:Below W.heap.size W W'):W'.ownsRow base T c v n ys:=by
 refine⟨h.1,h.2.imp_right ?_⟩;rintro ⟨g,cap,cur,rfl,hb,hg,hr⟩;exact⟨g,cap,cur,rfl,hb,(hm.block g (vQ hg)).trans hg,hr⟩
theorem zeM (j:Nat) (hj:j<2) (ah:Option Addr) (h ch:Nat) (ao:Option Addr) (m co:Nat) (W:World):∃ax nx cx,(if j=0 then .slice ah h ch else .slice ao m co:Value)=.slice ax nx cx/\(W.alloc (.cells #[.slice ah h ch,.slice ao m co] 34)).drew.cell? ⟨W.heap.size,j,none⟩=some (.slice ax nx cx):=by
 have hc:(W.alloc (.cells #[.slice ah h ch,.slice ao m co] 34)).drew.cell? ⟨W.heap.size,j,none⟩=(#[Value.slice ah h ch,.slice ao m co]:Array Value)[j]?:=by
  show (W.alloc _).cell? _=_;rw[World.cell?_alloc_new]
 have:j=0\/j=1:=by omega
 rcases this with rfl|rfl
 ·exact⟨ah,h,ch,by simp,by rw[hc]; simp⟩
 ·exact⟨ao,m,co,by simp,by rw[hc]; simp⟩
theorem Jz (j:Nat) (hj:j<2) (pv:Value) (ah:Option Addr) (h ch:Nat) (ao:Option Addr) (m co:Nat) (d:Int) (hd0:1<=d) (hd9:d<=5) (dn:Nat) (X base:Nat) (t0 t3 t4 t5 t6 t7 t8 t11 t14 t15 t16 t17 t18 t19 t20 t21 t22 t23 t24 t25 t26 t27 t28 t29 t30 t31 t32 t33 t34 t35 t36 t37 t38 t39 t40 t41 t42 t43 t44 t45 t46 t47 t48 t49 t50 t51 t52 t53 t54 t55 t56 t57 t58 t59 t60 t61 t62 t63 t64 t65 t66 t67 t68 t69 t70 t71 t72 t73 t74 t75 t76 t77 t78 t79 t80 t81 t82 t83 t84 t85 t86 t87 t88 t89 t90 t91 t92 t93 t94 t95 t96 t97 t98 t99 t100 t101 t102 t103 t104 t105 t106 t107 t108 t109 t110 t111 t112 t113 t114 t115 t116 t117 t118 t119 t120 t121 t122 t123 t124 t125 t126 t127 t128 t129 t130 t131 t132 t133 t134 t135 t136 t137 t138 t139 t140 t141 t142 t143 t144 t145 t146 t147 t148 t149 t150 t151 t152 t153 t154 t155 t156 t157 t158 t159 t160:Value) (o s:ByteArray) (xs:List Ex) (hjx:xs.length=j) (v:Value) (ys:List Value) (Wb W:World) (hat:CallAt base X o s dn xs v ys Wb W) (hXb:X<base)
  (hcall:∀W',Below W.heap.size W W'->Calls Tryz.prog 34 #[if j=0 then .slice ah h ch else .slice ao m co,pv,.int .i64 (d+1)] W' fun e w'=>xQ W'.heap.size (dn+1) e w'/\Below W'.heap.size W' w') :
  Code.wp Tryz.prog (Code.region 30 zeL true) (Zn fun a w=>∃v144 v145 v146 v147 v148 v149 v150 v151 v152 v153 v154 v155 v156 v157 v158,a={ tmps:=#[t0,pv,(.int .i64 d),t3,t4,t5,t6,t7,t8,(.slice ah h ch),(.slice ao m co),t11,(.pointer (some ⟨X,0,none⟩)),(.int .i64 j),t14,t15,t16,t17,t18,t19,t20,t21,t22,t23,t24,t25,t26,t27,t28,t29,t30,t31,t32,t33,t34,t35,t36,t37,t38,t39,t40,t41,t42,t43,t44,t45,t46,t47,t48,t49,t50,t51,t52,t53,t54,t55,t56,t57,t58,t59,t60,t61,t62,t63,t64,t65,t66,t67,t68,t69,t70,t71,t72,t73,t74,t75,t76,t77,t78,t79,t80,t81,t82,t83,t84,t85,t86,t87,t88,t89,t90,t91,t92,t93,t94,t95,t96,t97,t98,t99,t100,t101,t102,t103,t104,t105,t106,t107,t108,t109,t110,t111,t112,t113,t114,t115,t116,t117,t118,t119,t120,t121,t122,t123,t124,t125,t126,t127,t128,t129,t130,t131,t132,t133,t134,t135,t136,t137,t138,t139,t140,t141,t142,t143,v144,v145,v146,v147,v148,v149,v150,v151,v152,v153,v154,v155,v156,v157,v158,t159,t160],defers:=[] }/\∃x v' ys',CallAt base X o s dn (xs++[x]) v' ys' Wb w) { tmps:=#[t0,pv,(.int .i64 d),t3,t4,t5,t6,t7,t8,(.slice ah h ch),(.slice ao m co),t11,(.pointer (some ⟨X,0,none⟩)),(.int .i64 j),t14,t15,t16,t17,t18,t19,t20,t21,t22,t23,t24,t25,t26,t27,t28,t29,t30,t31,t32,t33,t34,t35,t36,t37,t38,t39,t40,t41,t42,t43,t44,t45,t46,t47,t48,t49,t50,t51,t52,t53,t54,t55,t56,t57,t58,t59,t60,t61,t62,t63,t64,t65,t66,t67,t68,t69,t70,t71,t72,t73,t74,t75,t76,t77,t78,t79,t80,t81,t82,t83,t84,t85,t86,t87,t88,t89,t90,t91,t92,t93,t94,t95,t96,t97,t98,t99,t100,t101,t102,t103,t104,t105,t106,t107,t108,t109,t110,t111,t112,t113,t114,t115,t116,t117,t118,t119,t120,t121,t122,t123,t124,t125,t126,t127,t128,t129,t130,t131,t132,t133,t134,t135,t136,t137,t138,t139,t140,t141,t142,t143,t144,t145,t146,t147,t148,t149,t150,t151,t152,t153,t154,t155,t156,t157,t158,t159,t160],defers:=[] } W:=by
 have hcell:W.drew.cell? ⟨X,4,none⟩=some v:=by
  show W.cell? _=_;rw[cell_of_row _ _ _ _ _ _ hat.box]; rfl
 have HAt:=zd hat;have HCall:=zd hcall;obtain⟨i0,hi0,hz0,hz1,hz2⟩:=info_parts zcB;have HI0:=zd hi0;have HZ0:=zd hz0;have HZ1:=zd hz1;have HZ2:=zd hz2;clear hat hcall hi0 hz0 hz1 hz2;unfold zeL;refine wp_region_held_drew (S:=fun _=>True) (by kernel_rfl) trivial (fun hHeld=>?_);clear hHeld;have hwrap:IntKind.i64.wrap (d+1)=d+1:=by
  have:d=1\/d=2\/d=3\/d=4\/d=5:=by omega
  rcases this with rfl|rfl|rfl|rfl|rfl <;> rfl
 have hj2:(j:Int)<2:=by omega
 have hxl:xs.length<2:=by omega
 clear hjx;have hXW:X<W.heap.size:=Nat.lt_of_lt_of_le hXb HAt.out.room;have h1cell:(W.alloc (.cells #[.slice ah h ch,.slice ao m co] 34)).drew.cell? ⟨X,4,none⟩=some v:=by
  show (W.alloc _).cell? _=_;rw[World.cell?_alloc_old _ _ _ (by show X≠_; omega)];exact hcell
 obtain⟨ax,nx,cx,hjv,hjc⟩:∃ax nx cx,(if j=0 then .slice ah h ch else .slice ao m co:Value)=.slice ax nx cx/\(W.alloc (.cells #[.slice ah h ch,.slice ao m co] 34)).drew.cell? ⟨W.heap.size,j,none⟩=some (.slice ax nx cx):=zeM j hj ah h ch ao m co W;rw[hjv] at HCall;clear hjv;refine zh 0 rfl rfl (by kernel_rfl) (by kernel_rfl) (by kernel_rfl) (fun _ _ _ h=>h) (v:=.pointer (some ⟨X,4,none⟩)) (Or.inl ⟨by rfl,fun w _=>by go_simp⟩) trivial ?_;refine zh 2 rfl rfl (by kernel_rfl) (by kernel_rfl) (by kernel_rfl) (fun _ _ _ h=>h) (v:=.slice ah h ch) (Or.inl ⟨by rfl,fun w _=>by go_simp⟩) trivial ?_;refine zh 3 rfl rfl (by kernel_rfl) (by kernel_rfl) (by kernel_rfl) (fun _ _ _ h=>h) (v:=.slice ao m co) (Or.inl ⟨by rfl,fun w _=>by go_simp⟩) trivial ?_;refine zh 5 rfl rfl (by kernel_rfl) (by kernel_rfl) (by kernel_rfl) (fun _ _ _ h=>h) (v:=.int .i64 j) (Or.inl ⟨by rfl,fun w _=>by go_simp⟩) trivial ?_;refine zh 8 rfl rfl (by kernel_rfl) (by kernel_rfl) (by kernel_rfl) (fun _ _ _ h=>h) (v:=pv) (Or.inl ⟨by rfl,fun w _=>by go_simp⟩) trivial ?_;refine zh 9 rfl rfl (by kernel_rfl) (by kernel_rfl) (by kernel_rfl) (fun _ _ _ h=>h) (v:=.int .i64 d) (Or.inl ⟨by rfl,fun w _=>by go_simp⟩) trivial ?_;refine zh 10 rfl rfl (by kernel_rfl) (by kernel_rfl) (by kernel_rfl) (fun _ _ _ h=>h) (v:=.int .i64 (d+1)) (Or.inl ⟨by rfl,fun w _=>by go_simp⟩) trivial ?_;have HB1:Hid (Below W.heap.size W (W.alloc (.cells #[.slice ah h ch,.slice ao m co] 34)).drew):=((Below.refl _ _).alloc (Nat.le_refl _) _).drew;have HSz1:Hid (W.heap.size<=(W.alloc (.cells #[.slice ah h ch,.slice ao m co] 34)).drew.heap.size):=HB1.out.size;refine xz 1 4 (by kernel_rfl) rfl rfl rfl rfl (fun K hK=>?_) (fun K hK=>?_)
 ·have HK:=zd hK
  clear hK
  go_simp
  refine HK.out _ _ trivial ?_;clear HK K;refine zg 4 (by kernel_rfl) rfl rfl (fun K hK=>?_);have HK:=zd hK;clear hK
  go_simp
  refine HK.out _ _ trivial ?_;clear HK K;refine zh 6 rfl rfl (by kernel_rfl) (by kernel_rfl) (by kernel_rfl) (fun _ _ _ h=>h) (v:=.pointer (some ⟨W.heap.size,j,none⟩)) (Or.inl ⟨by rfl,fun w _=>by go_simp⟩) trivial ?_;refine zg 7 (by kernel_rfl) rfl rfl (fun K hK=>?_);have HK:=zd hK;clear hK
  go_simp
  refine HK.out _ _ trivial ?_;clear HK K;refine zg 11 (by kernel_rfl) rfl rfl (fun K hK=>?_);have HK:=zd hK;clear hK
  go_simp
  refine (HCall.out _ HB1.out).mono ?_;rintro e w3 ⟨⟨x,k1,q1,f1,s1,b1,m1,c1,rfl,hcs,hft⟩,hb3⟩;have hb13:Below W.heap.size W w3:=HB1.out.trans (hb3.mono HSz1.out);have HX5:Hid (ExC (zm W.heap.size w3) w3 x [.int .i64 k1,.int .i64 q1,.string f1,.string s1,.slice b1 m1 c1]):=⟨k1,q1,f1,s1,b1,m1,c1,rfl,hcs.keep ⟨fun _ _=>rfl,fun b hb=>⟨Nat.le_trans HSz1.out hb.1,hb.2⟩⟩⟩
  have HFt:=zd hft;have HB13:=zd hb13;have h3cell:w3.cell? ⟨X,4,none⟩=some v:=(hb13.cell (p:=⟨X,4,none⟩) hXW).trans hcell;clear hcs hft hb3 hb13 hjc h1cell hcell HCall
  go_simp
  refine HK.out _ _ trivial ?_;clear HK K;refine zg 12 (by kernel_rfl) rfl rfl (fun K hK=>?_);have HK:=zd hK;clear hK
  go_simp
  have HB4:Hid (Below W.heap.size W (w3.alloc (.cells #[.int .i64 k1,.int .i64 q1,.string f1,.string s1,.slice b1 m1 c1] 70))):=HB13.out.alloc HB13.out.size _;have h4cell:(w3.alloc (.cells #[.int .i64 k1,.int .i64 q1,.string f1,.string s1,.slice b1 m1 c1] 70)).cell? ⟨X,4,none⟩=some v:=by
   rw[World.cell?_alloc_old _ _ _ (by show X≠_; have:=HB13.out.size; omega)];exact h3cell
  refine HK.out _ _ trivial ?_;clear HK K;refine zg 13 (by kernel_rfl) rfl rfl (fun K hK=>?_);have HOwn:=zd (Zh HAt.out.own HB4.out);have HNews:Hid (∀j u,([.int .i64 k1,.int .i64 q1,.string f1,.string s1,.slice b1 m1 c1]:List Value)[j]? = some u->(w3.alloc (.cells #[.int .i64 k1,.int .i64 q1,.string f1,.string s1,.slice b1 m1 c1] 70)).cell? ((⟨w3.heap.size,0,none⟩:Addr).add j)=some u):=
   World.news_of_block (cs:=#[.int .i64 k1,.int .i64 q1,.string f1,.string s1,.slice b1 m1 c1]) (t:=70) (fr:=(0,0)) (heap_alloc_new _ _)
  have HOne:Hid (∀u∈([.int .i64 k1,.int .i64 q1,.string f1,.string s1,.slice b1 m1 c1]:List Value),u.oneCell'=true):=by intro u hu; simp at hu; rcases hu with rfl|rfl|rfl|rfl|rfl <;> rfl
  have HX6:Hid (ExC (zm W.heap.size (w3.alloc (.cells #[.int .i64 k1,.int .i64 q1,.string f1,.string s1,.slice b1 m1 c1] 70))) (w3.alloc (.cells #[.int .i64 k1,.int .i64 q1,.string f1,.string s1,.slice b1 m1 c1] 70)) x [.int .i64 k1,.int .i64 q1,.string f1,.string s1,.slice b1 m1 c1]):=vT ⟨fun b hb=>heap_alloc_old _ _ hb.2,fun b hb=>⟨hb.1,by simp; have:=hb.2; omega⟩⟩ HX5.out;refine wp_append_lies _ _ _ _ rfl base 70 i0 _ 5 72 Tryz.underlying68 HI0.out HZ0.out HZ1.out HZ2.out rfl (by omega) v xs.length ys rfl HOwn.out ⟨w3.heap.size,0,none⟩ 1 1 [.int .i64 k1,.int .i64 q1,.string f1,.string s1,.slice b1 m1 c1] rfl rfl HNews.out HOne.out (by omega) (by unfold maxLen; omega) (by omega) (Nat.le_trans HAt.out.room HB4.out.size) _ rfl (fun g cap w1 hown1 hgrow hat1 hlt=>?_);have hc1:w1.cell? ⟨X,4,none⟩=some v:=(hgrow.cell_far ⟨X,4,none⟩ (Nat.lt_of_lt_of_le hXW HB4.out.size) (fun e=>by have:=zk HAt.out.own _ e.symm; have h2:base<=X:=this.1; omega)).trans h4cell;have hf1:w1.frozen? ⟨X,4,none⟩=false:=(hgrow.frozen_far ⟨X,4,none⟩ (Nat.lt_of_lt_of_le hXW HB4.out.size) (fun e=>by have:=zk HAt.out.own _ e.symm; have h2:base<=X:=this.1; omega)).trans (frozen_of_row _ _ _ _ _ ((HB4.out.block X hXW).trans HAt.out.box));have HG:=zd (Zt HAt.out hXb HB4.out hgrow hown1 hat1 rfl HX6.out HFt.out);refine hK _ _ trivial ?_;clear hK K hgrow hown1 h4cell h3cell HOwn HNews HOne HX6 HX5;refine zh 14 rfl rfl (by kernel_rfl) (by kernel_rfl) (by kernel_rfl) (fun _ _ _ h=>h) (v:=.pointer (some ⟨X,4,none⟩)) (Or.inl ⟨by rfl,fun w _=>by go_simp⟩) trivial ?_;refine zg 15 (by kernel_rfl) rfl rfl (fun K hK=>?_);have HK:=zd hK;clear hK
  go_simp
  exact HK.out _ _ trivial (wpAnyH_done (by kernel_rfl) ⟨_,_,_,_,_,_,_,_,_,_,_,_,_,_,_,rfl,_,_,_,HG.out⟩ _)
 ·have HK:=zd hK
  clear hK
  go_simp
  refine HK.out _ _ trivial ?_;clear HK K;refine zh 6 rfl rfl (by kernel_rfl) (by kernel_rfl) (by kernel_rfl) (fun _ _ _ h=>h) (v:=.pointer (some ⟨W.heap.size,j,none⟩)) (Or.inl ⟨by rfl,fun w _=>by go_simp⟩) trivial ?_;refine xz 1 7 (by kernel_rfl) rfl rfl rfl rfl (fun K hK=>?_) (fun K hK=>?_)
  ·have HK:=zd hK
   clear hK
   go_simp
   refine HK.out _ _ trivial ?_;clear HK K;refine zg 7 (by kernel_rfl) rfl rfl (fun K hK=>?_);have HK:=zd hK;clear hK
   go_simp
   refine HK.out _ _ trivial ?_;clear HK K;refine zg 11 (by kernel_rfl) rfl rfl (fun K hK=>?_);have HK:=zd hK;clear hK
   go_simp
   refine (HCall.out _ HB1.out).mono ?_;rintro e w3 ⟨⟨x,k1,q1,f1,s1,b1,m1,c1,rfl,hcs,hft⟩,hb3⟩;have hb13:Below W.heap.size W w3:=HB1.out.trans (hb3.mono HSz1.out);have HX5:Hid (ExC (zm W.heap.size w3) w3 x [.int .i64 k1,.int .i64 q1,.string f1,.string s1,.slice b1 m1 c1]):=⟨k1,q1,f1,s1,b1,m1,c1,rfl,hcs.keep ⟨fun _ _=>rfl,fun b hb=>⟨Nat.le_trans HSz1.out hb.1,hb.2⟩⟩⟩
   have HFt:=zd hft;have HB13:=zd hb13;have h3cell:w3.cell? ⟨X,4,none⟩=some v:=(hb13.cell (p:=⟨X,4,none⟩) hXW).trans hcell;clear hcs hft hb3 hb13 hjc h1cell hcell HCall
   go_simp
   refine HK.out _ _ trivial ?_;clear HK K;refine zg 12 (by kernel_rfl) rfl rfl (fun K hK=>?_);have HK:=zd hK;clear hK
   go_simp
   have HB4:Hid (Below W.heap.size W (w3.alloc (.cells #[.int .i64 k1,.int .i64 q1,.string f1,.string s1,.slice b1 m1 c1] 70))):=HB13.out.alloc HB13.out.size _;have h4cell:(w3.alloc (.cells #[.int .i64 k1,.int .i64 q1,.string f1,.string s1,.slice b1 m1 c1] 70)).cell? ⟨X,4,none⟩=some v:=by
    rw[World.cell?_alloc_old _ _ _ (by show X≠_; have:=HB13.out.size; omega)];exact h3cell
   refine HK.out _ _ trivial ?_;clear HK K;refine zg 13 (by kernel_rfl) rfl rfl (fun K hK=>?_);have HOwn:=zd (Zh HAt.out.own HB4.out);have HNews:Hid (∀j u,([.int .i64 k1,.int .i64 q1,.string f1,.string s1,.slice b1 m1 c1]:List Value)[j]? = some u->(w3.alloc (.cells #[.int .i64 k1,.int .i64 q1,.string f1,.string s1,.slice b1 m1 c1] 70)).cell? ((⟨w3.heap.size,0,none⟩:Addr).add j)=some u):=
    World.news_of_block (cs:=#[.int .i64 k1,.int .i64 q1,.string f1,.string s1,.slice b1 m1 c1]) (t:=70) (fr:=(0,0)) (heap_alloc_new _ _)
   have HOne:Hid (∀u∈([.int .i64 k1,.int .i64 q1,.string f1,.string s1,.slice b1 m1 c1]:List Value),u.oneCell'=true):=by intro u hu; simp at hu; rcases hu with rfl|rfl|rfl|rfl|rfl <;> rfl
   have HX6:Hid (ExC (zm W.heap.size (w3.alloc (.cells #[.int .i64 k1,.int .i64 q1,.string f1,.string s1,.slice b1 m1 c1] 70))) (w3.alloc (.cells #[.int .i64 k1,.int .i64 q1,.string f1,.string s1,.slice b1 m1 c1] 70)) x [.int .i64 k1,.int .i64 q1,.string f1,.string s1,.slice b1 m1 c1]):=vT ⟨fun b hb=>heap_alloc_old _ _ hb.2,fun b hb=>⟨hb.1,by simp; have:=hb.2; omega⟩⟩ HX5.out;refine wp_append_lies _ _ _ _ rfl base 70 i0 _ 5 72 Tryz.underlying68 HI0.out HZ0.out HZ1.out HZ2.out rfl (by omega) v xs.length ys rfl HOwn.out ⟨w3.heap.size,0,none⟩ 1 1 [.int .i64 k1,.int .i64 q1,.string f1,.string s1,.slice b1 m1 c1] rfl rfl HNews.out HOne.out (by omega) (by unfold maxLen; omega) (by omega) (Nat.le_trans HAt.out.room HB4.out.size) _ rfl (fun g cap w1 hown1 hgrow hat1 hlt=>?_);have hc1:w1.cell? ⟨X,4,none⟩=some v:=(hgrow.cell_far ⟨X,4,none⟩ (Nat.lt_of_lt_of_le hXW HB4.out.size) (fun e=>by have:=zk HAt.out.own _ e.symm; have h2:base<=X:=this.1; omega)).trans h4cell;have hf1:w1.frozen? ⟨X,4,none⟩=false:=(hgrow.frozen_far ⟨X,4,none⟩ (Nat.lt_of_lt_of_le hXW HB4.out.size) (fun e=>by have:=zk HAt.out.own _ e.symm; have h2:base<=X:=this.1; omega)).trans (frozen_of_row _ _ _ _ _ ((HB4.out.block X hXW).trans HAt.out.box));have HG:=zd (Zt HAt.out hXb HB4.out hgrow hown1 hat1 rfl HX6.out HFt.out);refine hK _ _ trivial ?_;clear hK K hgrow hown1 h4cell h3cell HOwn HNews HOne HX6 HX5;refine zh 14 rfl rfl (by kernel_rfl) (by kernel_rfl) (by kernel_rfl) (fun _ _ _ h=>h) (v:=.pointer (some ⟨X,4,none⟩)) (Or.inl ⟨by rfl,fun w _=>by go_simp⟩) trivial ?_;refine zg 15 (by kernel_rfl) rfl rfl (fun K hK=>?_);have HK:=zd hK;clear hK
   go_simp
   exact HK.out _ _ trivial (wpAnyH_done (by kernel_rfl) ⟨_,_,_,_,_,_,_,_,_,_,_,_,_,_,_,rfl,_,_,_,HG.out⟩ _)
  ·have HK:=zd hK
   clear hK
   go_simp
   refine HK.out _ _ trivial ?_;clear HK K;refine xz 1 11 (by kernel_rfl) rfl rfl rfl rfl (fun K hK=>?_) (fun K hK=>?_)
   ·have HK:=zd hK
    clear hK
    go_simp
    refine HK.out _ _ trivial ?_;clear HK K;refine zg 11 (by kernel_rfl) rfl rfl (fun K hK=>?_);have HK:=zd hK;clear hK
    go_simp
    refine (HCall.out _ HB1.out).mono ?_;rintro e w3 ⟨⟨x,k1,q1,f1,s1,b1,m1,c1,rfl,hcs,hft⟩,hb3⟩;have hb13:Below W.heap.size W w3:=HB1.out.trans (hb3.mono HSz1.out);have HX5:Hid (ExC (zm W.heap.size w3) w3 x [.int .i64 k1,.int .i64 q1,.string f1,.string s1,.slice b1 m1 c1]):=⟨k1,q1,f1,s1,b1,m1,c1,rfl,hcs.keep ⟨fun _ _=>rfl,fun b hb=>⟨Nat.le_trans HSz1.out hb.1,hb.2⟩⟩⟩
    have HFt:=zd hft;have HB13:=zd hb13;have h3cell:w3.cell? ⟨X,4,none⟩=some v:=(hb13.cell (p:=⟨X,4,none⟩) hXW).trans hcell;clear hcs hft hb3 hb13 hjc h1cell hcell HCall
    go_simp
    refine HK.out _ _ trivial ?_;clear HK K;refine zg 12 (by kernel_rfl) rfl rfl (fun K hK=>?_);have HK:=zd hK;clear hK
    go_simp
    have HB4:Hid (Below W.heap.size W (w3.alloc (.cells #[.int .i64 k1,.int .i64 q1,.string f1,.string s1,.slice b1 m1 c1] 70))):=HB13.out.alloc HB13.out.size _;have h4cell:(w3.alloc (.cells #[.int .i64 k1,.int .i64 q1,.string f1,.string s1,.slice b1 m1 c1] 70)).cell? ⟨X,4,none⟩=some v:=by
     rw[World.cell?_alloc_old _ _ _ (by show X≠_; have:=HB13.out.size; omega)];exact h3cell
    refine HK.out _ _ trivial ?_;clear HK K;refine zg 13 (by kernel_rfl) rfl rfl (fun K hK=>?_);have HOwn:=zd (Zh HAt.out.own HB4.out);have HNews:Hid (∀j u,([.int .i64 k1,.int .i64 q1,.string f1,.string s1,.slice b1 m1 c1]:List Value)[j]? = some u->(w3.alloc (.cells #[.int .i64 k1,.int .i64 q1,.string f1,.string s1,.slice b1 m1 c1] 70)).cell? ((⟨w3.heap.size,0,none⟩:Addr).add j)=some u):=
     World.news_of_block (cs:=#[.int .i64 k1,.int .i64 q1,.string f1,.string s1,.slice b1 m1 c1]) (t:=70) (fr:=(0,0)) (heap_alloc_new _ _)
    have HOne:Hid (∀u∈([.int .i64 k1,.int .i64 q1,.string f1,.string s1,.slice b1 m1 c1]:List Value),u.oneCell'=true):=by intro u hu; simp at hu; rcases hu with rfl|rfl|rfl|rfl|rfl <;> rfl
    have HX6:Hid (ExC (zm W.heap.size (w3.alloc (.cells #[.int .i64 k1,.int .i64 q1,.string f1,.string s1,.slice b1 m1 c1] 70))) (w3.alloc (.cells #[.int .i64 k1,.int .i64 q1,.string f1,.string s1,.slice b1 m1 c1] 70)) x [.int .i64 k1,.int .i64 q1,.string f1,.string s1,.slice b1 m1 c1]):=vT ⟨fun b hb=>heap_alloc_old _ _ hb.2,fun b hb=>⟨hb.1,by simp; have:=hb.2; omega⟩⟩ HX5.out;refine wp_append_lies _ _ _ _ rfl base 70 i0 _ 5 72 Tryz.underlying68 HI0.out HZ0.out HZ1.out HZ2.out rfl (by omega) v xs.length ys rfl HOwn.out ⟨w3.heap.size,0,none⟩ 1 1 [.int .i64 k1,.int .i64 q1,.string f1,.string s1,.slice b1 m1 c1] rfl rfl HNews.out HOne.out (by omega) (by unfold maxLen; omega) (by omega) (Nat.le_trans HAt.out.room HB4.out.size) _ rfl (fun g cap w1 hown1 hgrow hat1 hlt=>?_);have hc1:w1.cell? ⟨X,4,none⟩=some v:=(hgrow.cell_far ⟨X,4,none⟩ (Nat.lt_of_lt_of_le hXW HB4.out.size) (fun e=>by have:=zk HAt.out.own _ e.symm; have h2:base<=X:=this.1; omega)).trans h4cell;have hf1:w1.frozen? ⟨X,4,none⟩=false:=(hgrow.frozen_far ⟨X,4,none⟩ (Nat.lt_of_lt_of_le hXW HB4.out.size) (fun e=>by have:=zk HAt.out.own _ e.symm; have h2:base<=X:=this.1; omega)).trans (frozen_of_row _ _ _ _ _ ((HB4.out.block X hXW).trans HAt.out.box));have HG:=zd (Zt HAt.out hXb HB4.out hgrow hown1 hat1 rfl HX6.out HFt.out);refine hK _ _ trivial ?_;clear hK K hgrow hown1 h4cell h3cell HOwn HNews HOne HX6 HX5;refine zh 14 rfl rfl (by kernel_rfl) (by kernel_rfl) (by kernel_rfl) (fun _ _ _ h=>h) (v:=.pointer (some ⟨X,4,none⟩)) (Or.inl ⟨by rfl,fun w _=>by go_simp⟩) trivial ?_;refine zg 15 (by kernel_rfl) rfl rfl (fun K hK=>?_);have HK:=zd hK;clear hK
    go_simp
    exact HK.out _ _ trivial (wpAnyH_done (by kernel_rfl) ⟨_,_,_,_,_,_,_,_,_,_,_,_,_,_,_,rfl,_,_,_,HG.out⟩ _)
   ·have HK:=zd hK
    clear hK
    go_simp
    refine (HCall.out _ HB1.out).mono ?_;rintro e w3 ⟨⟨x,k1,q1,f1,s1,b1,m1,c1,rfl,hcs,hft⟩,hb3⟩;have hb13:Below W.heap.size W w3:=HB1.out.trans (hb3.mono HSz1.out);have HX5:Hid (ExC (zm W.heap.size w3) w3 x [.int .i64 k1,.int .i64 q1,.string f1,.string s1,.slice b1 m1 c1]):=⟨k1,q1,f1,s1,b1,m1,c1,rfl,hcs.keep ⟨fun _ _=>rfl,fun b hb=>⟨Nat.le_trans HSz1.out hb.1,hb.2⟩⟩⟩
    have HFt:=zd hft;have HB13:=zd hb13;have h3cell:w3.cell? ⟨X,4,none⟩=some v:=(hb13.cell (p:=⟨X,4,none⟩) hXW).trans hcell;clear hcs hft hb3 hb13 hjc h1cell hcell HCall
    go_simp
    refine HK.out _ _ trivial ?_;clear HK K;refine xz 1 12 (by kernel_rfl) rfl rfl rfl rfl (fun K hK=>?_) (fun K hK=>?_)
    ·have HK:=zd hK
     clear hK
     go_simp
     refine HK.out _ _ trivial ?_;clear HK K;refine zg 12 (by kernel_rfl) rfl rfl (fun K hK=>?_);have HK:=zd hK;clear hK
     go_simp
     have HB4:Hid (Below W.heap.size W (w3.alloc (.cells #[.int .i64 k1,.int .i64 q1,.string f1,.string s1,.slice b1 m1 c1] 70))):=HB13.out.alloc HB13.out.size _;have h4cell:(w3.alloc (.cells #[.int .i64 k1,.int .i64 q1,.string f1,.string s1,.slice b1 m1 c1] 70)).cell? ⟨X,4,none⟩=some v:=by
      rw[World.cell?_alloc_old _ _ _ (by show X≠_; have:=HB13.out.size; omega)];exact h3cell
     refine HK.out _ _ trivial ?_;clear HK K;refine zg 13 (by kernel_rfl) rfl rfl (fun K hK=>?_);have HOwn:=zd (Zh HAt.out.own HB4.out);have HNews:Hid (∀j u,([.int .i64 k1,.int .i64 q1,.string f1,.string s1,.slice b1 m1 c1]:List Value)[j]? = some u->(w3.alloc (.cells #[.int .i64 k1,.int .i64 q1,.string f1,.string s1,.slice b1 m1 c1] 70)).cell? ((⟨w3.heap.size,0,none⟩:Addr).add j)=some u):=
      World.news_of_block (cs:=#[.int .i64 k1,.int .i64 q1,.string f1,.string s1,.slice b1 m1 c1]) (t:=70) (fr:=(0,0)) (heap_alloc_new _ _)
     have HOne:Hid (∀u∈([.int .i64 k1,.int .i64 q1,.string f1,.string s1,.slice b1 m1 c1]:List Value),u.oneCell'=true):=by intro u hu; simp at hu; rcases hu with rfl|rfl|rfl|rfl|rfl <;> rfl
     have HX6:Hid (ExC (zm W.heap.size (w3.alloc (.cells #[.int .i64 k1,.int .i64 q1,.string f1,.string s1,.slice b1 m1 c1] 70))) (w3.alloc (.cells #[.int .i64 k1,.int .i64 q1,.string f1,.string s1,.slice b1 m1 c1] 70)) x [.int .i64 k1,.int .i64 q1,.string f1,.string s1,.slice b1 m1 c1]):=vT ⟨fun b hb=>heap_alloc_old _ _ hb.2,fun b hb=>⟨hb.1,by simp; have:=hb.2; omega⟩⟩ HX5.out;refine wp_append_lies _ _ _ _ rfl base 70 i0 _ 5 72 Tryz.underlying68 HI0.out HZ0.out HZ1.out HZ2.out rfl (by omega) v xs.length ys rfl HOwn.out ⟨w3.heap.size,0,none⟩ 1 1 [.int .i64 k1,.int .i64 q1,.string f1,.string s1,.slice b1 m1 c1] rfl rfl HNews.out HOne.out (by omega) (by unfold maxLen; omega) (by omega) (Nat.le_trans HAt.out.room HB4.out.size) _ rfl (fun g cap w1 hown1 hgrow hat1 hlt=>?_);have hc1:w1.cell? ⟨X,4,none⟩=some v:=(hgrow.cell_far ⟨X,4,none⟩ (Nat.lt_of_lt_of_le hXW HB4.out.size) (fun e=>by have:=zk HAt.out.own _ e.symm; have h2:base<=X:=this.1; omega)).trans h4cell;have hf1:w1.frozen? ⟨X,4,none⟩=false:=(hgrow.frozen_far ⟨X,4,none⟩ (Nat.lt_of_lt_of_le hXW HB4.out.size) (fun e=>by have:=zk HAt.out.own _ e.symm; have h2:base<=X:=this.1; omega)).trans (frozen_of_row _ _ _ _ _ ((HB4.out.block X hXW).trans HAt.out.box));have HG:=zd (Zt HAt.out hXb HB4.out hgrow hown1 hat1 rfl HX6.out HFt.out);refine hK _ _ trivial ?_;clear hK K hgrow hown1 h4cell h3cell HOwn HNews HOne HX6 HX5;refine zh 14 rfl rfl (by kernel_rfl) (by kernel_rfl) (by kernel_rfl) (fun _ _ _ h=>h) (v:=.pointer (some ⟨X,4,none⟩)) (Or.inl ⟨by rfl,fun w _=>by go_simp⟩) trivial ?_;refine zg 15 (by kernel_rfl) rfl rfl (fun K hK=>?_);have HK:=zd hK;clear hK
     go_simp
     exact HK.out _ _ trivial (wpAnyH_done (by kernel_rfl) ⟨_,_,_,_,_,_,_,_,_,_,_,_,_,_,_,rfl,_,_,_,HG.out⟩ _)
    ·have HK:=zd hK
     clear hK
     go_simp
     have HB4:Hid (Below W.heap.size W (w3.alloc (.cells #[.int .i64 k1,.int .i64 q1,.string f1,.string s1,.slice b1 m1 c1] 70))):=HB13.out.alloc HB13.out.size _;have h4cell:(w3.alloc (.cells #[.int .i64 k1,.int .i64 q1,.string f1,.string s1,.slice b1 m1 c1] 70)).cell? ⟨X,4,none⟩=some v:=by
      rw[World.cell?_alloc_old _ _ _ (by show X≠_; have:=HB13.out.size; omega)];exact h3cell
     refine HK.out _ _ trivial ?_;clear HK K;refine zg 1 (by kernel_rfl) rfl rfl (fun K hK=>?_);have HK:=zd hK;clear hK
     go_simp
     refine HK.out _ _ trivial ?_;clear HK K;refine zg 13 (by kernel_rfl) rfl rfl (fun K hK=>?_);have HOwn:=zd (Zh HAt.out.own HB4.out);have HNews:Hid (∀j u,([.int .i64 k1,.int .i64 q1,.string f1,.string s1,.slice b1 m1 c1]:List Value)[j]? = some u->(w3.alloc (.cells #[.int .i64 k1,.int .i64 q1,.string f1,.string s1,.slice b1 m1 c1] 70)).cell? ((⟨w3.heap.size,0,none⟩:Addr).add j)=some u):=
      World.news_of_block (cs:=#[.int .i64 k1,.int .i64 q1,.string f1,.string s1,.slice b1 m1 c1]) (t:=70) (fr:=(0,0)) (heap_alloc_new _ _)
     have HOne:Hid (∀u∈([.int .i64 k1,.int .i64 q1,.string f1,.string s1,.slice b1 m1 c1]:List Value),u.oneCell'=true):=by intro u hu; simp at hu; rcases hu with rfl|rfl|rfl|rfl|rfl <;> rfl
     have HX6:Hid (ExC (zm W.heap.size (w3.alloc (.cells #[.int .i64 k1,.int .i64 q1,.string f1,.string s1,.slice b1 m1 c1] 70))) (w3.alloc (.cells #[.int .i64 k1,.int .i64 q1,.string f1,.string s1,.slice b1 m1 c1] 70)) x [.int .i64 k1,.int .i64 q1,.string f1,.string s1,.slice b1 m1 c1]):=vT ⟨fun b hb=>heap_alloc_old _ _ hb.2,fun b hb=>⟨hb.1,by simp; have:=hb.2; omega⟩⟩ HX5.out;refine wp_append_lies _ _ _ _ rfl base 70 i0 _ 5 72 Tryz.underlying68 HI0.out HZ0.out HZ1.out HZ2.out rfl (by omega) v xs.length ys rfl HOwn.out ⟨w3.heap.size,0,none⟩ 1 1 [.int .i64 k1,.int .i64 q1,.string f1,.string s1,.slice b1 m1 c1] rfl rfl HNews.out HOne.out (by omega) (by unfold maxLen; omega) (by omega) (Nat.le_trans HAt.out.room HB4.out.size) _ rfl (fun g cap w1 hown1 hgrow hat1 hlt=>?_);have hc1:w1.cell? ⟨X,4,none⟩=some v:=(hgrow.cell_far ⟨X,4,none⟩ (Nat.lt_of_lt_of_le hXW HB4.out.size) (fun e=>by have:=zk HAt.out.own _ e.symm; have h2:base<=X:=this.1; omega)).trans h4cell;have hf1:w1.frozen? ⟨X,4,none⟩=false:=(hgrow.frozen_far ⟨X,4,none⟩ (Nat.lt_of_lt_of_le hXW HB4.out.size) (fun e=>by have:=zk HAt.out.own _ e.symm; have h2:base<=X:=this.1; omega)).trans (frozen_of_row _ _ _ _ _ ((HB4.out.block X hXW).trans HAt.out.box));have HG:=zd (Zt HAt.out hXb HB4.out hgrow hown1 hat1 rfl HX6.out HFt.out);refine hK _ _ trivial ?_;clear hK K hgrow hown1 h4cell h3cell HOwn HNews HOne HX6 HX5;refine zh 14 rfl rfl (by kernel_rfl) (by kernel_rfl) (by kernel_rfl) (fun _ _ _ h=>h) (v:=.pointer (some ⟨X,4,none⟩)) (Or.inl ⟨by rfl,fun w _=>by go_simp⟩) trivial ?_;refine zg 15 (by kernel_rfl) rfl rfl (fun K hK=>?_);have HK:=zd hK;clear hK
     go_simp
     exact HK.out _ _ trivial (wpAnyH_done (by kernel_rfl) ⟨_,_,_,_,_,_,_,_,_,_,_,_,_,_,_,rfl,_,_,_,HG.out⟩ _)
theorem JA {w2:World} {s:ByteArray} (o:ByteArray) {n d:Nat} (hs2:w2.heap.size=n+2):CallAt (n+3) (n+2) o s d [] (.slice none 0 0) [] w2 (w2.alloc (.cells #[.int .i64 4,.int .i64 0,.string o,.string s,.slice none 0 0] 70)):=by
 refine⟨?_,⟨rfl,Or.inl ⟨rfl,rfl⟩⟩,fun j hj=>absurd hj (by simp),fun x hx=>absurd hx (by simp),(Below.refl _ _).alloc (by omega) _,by simp; omega⟩;rw[<- hs2];exact heap_alloc_new _ _
theorem zbc (d:Nat) (hd:1<=d) (hd5:d<=5) (S:Nat->Prop) (v:Value) (ps:List Fd) (pv:Value) (w:World) (hv:ze S (qK w) 4 [] v) (hps:kZ S w ps pv) :
  Calls Tryz.prog 34 #[v,pv,.int .i64 d] w fun e w'=>xQ w.heap.size d e w'/\Below w.heap.size w w':=by
 obtain⟨a,cap,rfl,hcap⟩:=hv.isCap;obtain⟨pa,pcap,rfl,hpcap⟩:=hps.1.isCap;have HB:Hid (∀o,Below w.heap.size w (w.alloc o)):=fun o=>(Below.refl _ _).alloc (Nat.le_refl _) _
 have HM:Hid (∀W,xQ w.heap.size d (.returned (.agg #[.int .i64 1,.int .i64 7,.string ⟨#[]⟩,.string ⟨#[]⟩,.slice none 0 0])) W):=fun W=>⟨_,_,_,_,_,_,_,_,rfl,jF _ _ _ _ _ (Nat.zero_le _),YM (by omega) (by omega) (by omega)⟩
 clear hv hps;go_enter Tryz.func34,Tryz.ntmps34;go_wp2_with fail;exact bodyPost_ret (v:=.agg #[.int .i64 1,.int .i64 7,.string ⟨#[]⟩,.string ⟨#[]⟩,.slice none 0 0]) (by simp[results,Tryz.results34,go_sem]) rfl ⟨HM.out _,HB.out _⟩
theorem zeN (d:Nat) (hd:1<=d) (hd5:d<=5) (HRec:Hid (∀(S:Nat->Prop) (l:List Rw) (v:Value) (ps:List Fd) (pv:Value) (w:World),(∀b,S b->b<w.heap.size)->ze S (qK w) 4 l v->kZ S w ps pv->qz w->
   Calls Tryz.prog 34 #[v,pv,.int .i64 ((d:Int)+1)] w fun e w'=>xQ w.heap.size (d+1) e w'/\Below w.heap.size w w'))
  (S:Nat->Prop) (r:Rw) (l:List Rw) (v:Value) (ps:List Fd) (pv:Value) (w:World) (hS:∀b,S b->b<w.heap.size) (hv:ze S (qK w) 4 (r::l) v) (hps:kZ S w ps pv) (hnm:qz w) (hdl:d<5) (hk:12<=qi r.kind 16) :
  Calls Tryz.prog 34 #[v,pv,.int .i64 d] w fun e w'=>xQ w.heap.size d e w'/\Below w.heap.size w w':=by
 have hlen:=hv.len;unfold maxLen at hlen;have HV:=zd hv;have HNm:=zd hnm;have HPs:=zd hps;obtain⟨a,cap,rfl,hcap⟩:=hv.isCap;obtain⟨pa,pcap,rfl,hpcap⟩:=hps.1.isCap;have hplen:=hps.1.len;unfold maxLen at hplen;clear hv hnm hps;obtain⟨_,b,off,rfl,hb,⟨⟨a0,a1,a2,a3⟩,f0,f1,f2,f3⟩⟩:=HV.out.at (k:=0) (by simp);have hbk:=hS b hb;simp only[List.getElem_cons_zero,Nat.zero_mul,Nat.add_zero] at a0 a1 a2 a3 f0 f1 f2 f3;have hcap':l.length+1<=cap:=hcap;have hl0:((l.length:Int)+1==0)=false:=by simp; omega
 obtain⟨a',cap',hrun,hpart⟩:∃a' cap',(∀W,(Instr.slice 34 (.slice (some ⟨b,off,none⟩) (l.length+1) cap) (some (.int .i64 1)) none none).run Tryz.prog W=.ok (.slice a' l.length cap') W)/\ze S (qK w) 4 l (.slice a' l.length cap'):=by
  obtain⟨a',cap',hsl,hpart⟩:=yW HV.out (i:=1) (j:=l.length+1) (by omega) (Nat.le_refl _);rw[Nat.add_sub_cancel] at hsl hpart;have e1:((r::l).drop 1).take l.length=l:=by simp
  rw[e1] at hpart;exact⟨a',cap',fun W=>by rw[Zs (some ⟨b,off,none⟩) (l.length+1) cap 1 1 rfl (by omega) W,hsl],hpart⟩
 have hlen':l.length+1<=9223372036854775807:=hlen;obtain⟨h,hh,hh'⟩:∃h:Nat,(l.length:Int) / 2=h/\h<=l.length:=⟨l.length / 2,by omega,by omega⟩
 obtain⟨a'',cap'',e',⟨hc1,hc2⟩,_⟩:=id hpart;injection e' with e1 e2 e3
 subst e1 e3;obtain⟨ah,ch,hrunh,hparth⟩:∃ah ch,(∀W,(Instr.slice 34 (.slice a' l.length cap') none (some (.int .i64 ((l.length:Int) / 2))) none).run Tryz.prog W=.ok (.slice ah h ch) W)/\ze S (qK w) 4 (l.take h) (.slice ah h ch):=by
  obtain⟨ah,ch,hsl,hp⟩:=yW hpart (i:=0) (j:=h) (by omega) hh';rw[Nat.sub_zero,List.drop_zero] at hp;rw[Nat.sub_zero] at hsl;exact⟨ah,ch,fun W=>by rw[zba a' l.length cap' h _ hh (by omega) W,hsl],hp⟩
 obtain⟨ao,co,m,hruno,hparto⟩:∃ao co m,(∀W,(Instr.slice 34 (.slice a' l.length cap') (some (.int .i64 ((l.length:Int) / 2))) none none).run Tryz.prog W=.ok (.slice ao m co) W)/\ze S (qK w) 4 ((l.drop h).take m) (.slice ao m co):=by
  obtain⟨ao,co,hsl,hp⟩:=yW hpart (i:=h) (j:=l.length) hh' (Nat.le_refl _);exact⟨ao,co,_,fun W=>by rw[Zs a' l.length cap' h _ hh hh' W,hsl],hp⟩
 have HPh:=zd hparth;have HPo:=zd hparto;clear hpart hparth hparto HV hcap hlen hc1 hc2;have hle1:¬(l.length:Int) / 2<0:=by omega
 clear hh;show Calls Tryz.prog 34 #[.slice (some ⟨b,off,none⟩) (l.length+1) cap,.slice pa ps.length pcap,.int .i64 d] w _;obtain⟨w2,hwe,hs2,hbox,hres,hbel⟩:∃w2,(w.alloc (.cells #[.int .i64 0,.int .i64 0,.string ⟨#[]⟩,.string ⟨#[]⟩,.slice none 0 0] 70)).alloc (.cells #[.int .i64 r.kind,.int .i64 r.a,.int .i64 r.b,.int .i64 r.c] 91)=w2/\w2.heap.size=w.heap.size+2/\
   w2.heap[w.heap.size+1]? = some (.cells #[.int .i64 r.kind,.int .i64 r.a,.int .i64 r.b,.int .i64 r.c] 91 (0,0))/\w2.heap[w.heap.size]? = some (.cells #[.int .i64 0,.int .i64 0,.string ⟨#[]⟩,.string ⟨#[]⟩,.slice none 0 0] 70 (0,0))/\Below w.heap.size w w2:=by
  refine⟨_,rfl,by simp,?_,?_,((Below.refl _ _).alloc (Nat.le_refl _) _).alloc (by simp) _⟩
  ·have:=heap_alloc_new (w.alloc (.cells #[.int .i64 0,.int .i64 0,.string ⟨#[]⟩,.string ⟨#[]⟩,.slice none 0 0] 70)) (.cells #[.int .i64 r.kind,.int .i64 r.a,.int .i64 r.b,.int .i64 r.c] 91)
   simpa using this
  ·have hb1:Below (w.heap.size+1) (w.alloc (.cells #[.int .i64 0,.int .i64 0,.string ⟨#[]⟩,.string ⟨#[]⟩,.slice none 0 0] 70)) ((w.alloc (.cells #[.int .i64 0,.int .i64 0,.string ⟨#[]⟩,.string ⟨#[]⟩,.slice none 0 0] 70)).alloc (.cells #[.int .i64 r.kind,.int .i64 r.a,.int .i64 r.b,.int .i64 r.c] 91)):=(Below.refl _ _).alloc (by simp) _
   exact (hb1.block _ (by omega)).trans (heap_alloc_new _ _)
 have HFacts:Hid (∀W,Below (w.heap.size+2) w2 W->((W.cell? ⟨w.heap.size+1,0,none⟩=some (.int .i64 r.kind)/\W.cell? ⟨w.heap.size+1,1,none⟩=some (.int .i64 r.a)/\W.cell? ⟨w.heap.size+1,2,none⟩=some (.int .i64 r.b)/\W.cell? ⟨w.heap.size+1,3,none⟩=some (.int .i64 r.c))/\Below w.heap.size w W/\w.heap.size+2<=W.heap.size)/\
   (W.cell? ⟨w.heap.size,0,none⟩=some (.int .i64 0)/\W.cell? ⟨w.heap.size,1,none⟩=some (.int .i64 0)/\W.cell? ⟨w.heap.size,2,none⟩=some (.string ⟨#[]⟩)/\W.cell? ⟨w.heap.size,3,none⟩=some (.string ⟨#[]⟩)/\W.cell? ⟨w.heap.size,4,none⟩=some (.slice none 0 0))/\
   W.frozen? ⟨w.heap.size,0,none⟩=false/\W.frozen? ⟨w.heap.size,1,none⟩=false/\W.frozen? ⟨w.heap.size,2,none⟩=false/\W.frozen? ⟨w.heap.size,3,none⟩=false/\W.frozen? ⟨w.heap.size,4,none⟩=false):=fun W h=>by
  have g1:=(h.block (w.heap.size+1) (by omega)).trans hbox;have g2:=(h.block w.heap.size (by omega)).trans hres;have hsz:=h.size;refine⟨⟨⟨?_,?_,?_,?_⟩,hbel.trans (h.mono (by omega)),by omega⟩,⟨?_,?_,?_,?_,?_⟩,?_,?_,?_,?_,?_⟩
  all_goals first|(rw[cell_of_row _ _ _ _ _ _ g1]; rfl)|(rw[cell_of_row _ _ _ _ _ _ g2]; rfl)|exact frozen_of_row _ _ _ _ _ g2
 have HWe:=zd hwe;have HSet:Hid (∀W u0 u1 u2 u3 u4,Below w.heap.size w W->Below w.heap.size w (yY W w.heap.size u0 u1 u2 u3 u4)):=fun W u0 u1 u2 u3 u4 h=>ko h u0 u1 u2 u3 u4
 obtain⟨⟨⟨x0,x1,x2,x3⟩,hbw,hsz⟩,⟨y0,y1,y2,y3,y4⟩,z0,z1,z2,z3,z4⟩:=HFacts.out w2 (Below.refl _ _);have HBw:=zd hbw;have HN2:=zd (HNm.out.keep HBw.out);clear hwe hbox hres hbel hbw;go_enter Tryz.func34,Tryz.ntmps34;go_wp2_with fail;rw[HWe.out];refine (qR r.kind f0 16 (by omega) (by omega) _).mono ?_;rintro e w1 ⟨rfl,rfl⟩;have hdl':¬5<=(d:Int):=by omega
 generalize qi r.kind 16=k at hk ⊢;have hk2':¬(k:Int)<2:=by omega
 have hk3':((k:Int)==2)=false:=by simp; omega
 have hk7':¬(k:Int)<7:=by omega
 have hk10':¬(k:Int)<10:=by omega
 have hk11':((k:Int)==10)=false:=by simp; omega
 have hk12':((k:Int)==11)=false:=by simp; omega
 have HR:Hid (∀W,Below w.heap.size w W->∀l v,ze S (qK w) 4 l v->Calls Tryz.prog 34 #[v,.slice pa ps.length pcap,.int .i64 ((d:Int)+1)] W fun e w'=>xQ W.heap.size (d+1) e w'/\Below W.heap.size W w'):=fun W hb l v hv=>
  HRec.out S l v ps _ W (fun b h=>Nat.lt_of_lt_of_le (hS b h) hb.size) (vO (Keeps.below hb hS) hv) ⟨HPs.out.1.imp (fun _ h=>h) fun _ _ _ _ hb' h=>qO.keep (Keeps.below hb hS) hb' h,HPs.out.2⟩ (HNm.out.keep hb)
 clear HRec HPs f0 a0 a1 a2 a3 hrun hrunh hruno;go_wp2_with fail;refine (yX _ f1 _ HN2.out).mono ?_;rintro e w3 ⟨s,rfl,hs,hs8,rfl⟩;have HI:=zd hs;clear hs
 by_cases hk13:13<k
 ·have hk13':13<(k:Int):=by omega
  have HNx:Hid (qz (w2.alloc (.cells #[.int .i64 4,.int .i64 0,.string ⟨#[]⟩,.string s,.slice none 0 0] 70))):=HNm.out.keep (HBw.out.alloc HBw.out.size _);go_wp2_with fail;refine (yX _ f2 _ HNx.out).mono ?_;rintro e w3 ⟨o,rfl,ho,ho8,rfl⟩;have HO:Hid (zD o=true):=by unfold Hid zD; rw[ho]; simp
  have HO8:Hid (o.size<=8):=ho8;have HC0:=zd (JA (s:=s) (d:=d) o hs2);clear ho ho8 hk13;go_wp2_with fail;refine (qR r.c f3 3 (by omega) (by omega) _).mono ?_;rintro e w4 ⟨rfl,rfl⟩;have hq:=yG r.c 3 (by omega);generalize qi r.c 3=q at hq ⊢;clear x0 x1 x2 x3 y0 y1 y2 y3 y4 z0 z1 z2 z3 z4;go_wp2_with fail
  go_loopw [141] (fun i wr=>∃(xs:List Ex) (v:Value) (ys:List Value),xs.length<=q/\i=.int .i64 xs.length/\CallAt (w.heap.size+3) (w.heap.size+2) o s d xs v ys w2 wr) (fun i _=>q - (intOf i).toNat)
  case atStart=>exact⟨[],_,[],Nat.zero_le _,rfl,HC0.out⟩
  case round=>
   obtain⟨xs,v,ys,hxq,rfl,hca⟩:=hrel;have HCa:=zd hca;have HBr:Hid (Below w.heap.size w wr):=HBw.out.trans (hca.below.mono (by omega))
   by_cases hlt:xs.length<q
   ·have hlt':(xs.length:Int)<(q:Int):=by omega
    clear hca HC0;go_wp2_with fail;refine Code.wp_mono ?_ (Jz xs.length (by omega) _ _ _ _ _ _ _ _ (by omega) (by omega) d (w.heap.size+2) (w.heap.size+3) _ _ _ _ _ _ _ _ _ _ _ _ _ _ _ _ _ _ _ _ _ _ _ _ _ _ _ _ _ _ _ _ _ _ _ _ _ _ _ _ _ _ _ _ _ _ _ _ _ _ _ _ _ _ _ _ _ _ _ _ _ _ _ _ _ _ _ _ _ _ _ _ _ _ _ _ _ _ _ _ _ _ _ _ _ _ _ _ _ _ _ _ _ _ _ _ _ _ _ _ _ _ _ _ _ _ _ _ _ _ _ _ _ _ _ _ _ _ _ _ _ _ _ _ _ _ _ _ _ _ _ _ _ _ _ _ _ _ _ _ _ _ _ _ _ _ _ _ _ _ _ _ _ _ _ o s xs rfl v ys w2 wr HCa.out (by omega) (fun W' hb'=>?_))
    ·intro e a w' h
     cases e with
     |normal=>
      obtain⟨v144,v145,v146,v147,v148,v149,v150,v151,v152,v153,v154,v155,v156,v157,v158,rfl,x,v',ys',hca'⟩:=h;have HCa':=zd hca';clear hca';go_wp2_with fail;exact⟨⟨xs++[x],v',ys',by simp; omega,by simp,HCa'.out⟩,by simp[intOf]; omega⟩
     |_=>exact h.elim
    ·have hb2:=HBr.out.trans (hb'.mono HBr.out.size)
     split
     ·exact HR.out W' hb2 _ _ HPh.out
     ·exact HR.out W' hb2 _ _ HPo.out
   ·have hlt':¬(xs.length:Int)<(q:Int):=by omega
    obtain⟨_,⟨y0,y1,y2,y3,y4⟩,z0,z1,z2,z3,z4⟩:=HFacts.out wr hca.below;have c0:wr.cell? ⟨w.heap.size+2,0,none⟩=some (.int .i64 4):=by rw[cell_of_row _ _ _ _ _ _ hca.box]; rfl
    have c1:wr.cell? ⟨w.heap.size+2,1,none⟩=some (.int .i64 0):=by rw[cell_of_row _ _ _ _ _ _ hca.box]; rfl
    have c2:wr.cell? ⟨w.heap.size+2,2,none⟩=some (.string o):=by rw[cell_of_row _ _ _ _ _ _ hca.box]; rfl
    have c3:wr.cell? ⟨w.heap.size+2,3,none⟩=some (.string s):=by rw[cell_of_row _ _ _ _ _ _ hca.box]; rfl
    have c4:wr.cell? ⟨w.heap.size+2,4,none⟩=some v:=by rw[cell_of_row _ _ _ _ _ _ hca.box]; rfl
    have HFin:Hid (∀u0 u1 u2 u3 u4,xQ w.heap.size d (.returned (.agg #[.int .i64 4,.int .i64 0,.string o,.string s,v])) (yY wr w.heap.size u0 u1 u2 u3 u4)):=fun u0 u1 u2 u3 u4=>by
     obtain⟨a,m,cap,hv,hex⟩:=Xe hca (n:=w.heap.size) (by omega) (by omega) HO8.out hs8 (by omega) u0 u1 u2 u3 u4;exact⟨_,4,0,_,_,a,m,cap,by rw[hv],hex,Jy (by omega) HI.out HO.out (by omega) hca.ok⟩
    obtain⟨va,vm,vc,rfl⟩:∃va vm vc,v=.slice va vm vc:=by
     obtain⟨a,m,cap,hv,_⟩:=Xe hca (n:=w.heap.size) (by omega) (by omega) HO8.out hs8 (by omega) v v v v v;exact⟨a,m,cap,hv⟩
    clear hca HC0 HCa;go_wp2_with fail;exact bodyPost_ret (v:=.agg #[.int .i64 4,.int .i64 0,.string o,.string s,.slice va vm vc]) (by simp[results,Tryz.results34,go_sem,y0,y1,y2,y3,y4]) rfl ⟨HFin.out _ _ _ _ _,HSet.out _ _ _ _ _ _ HBr.out⟩
 ·have hk13':¬13<(k:Int):=by omega
  have HO:Hid (zD ⟨#[]⟩=true):=by unfold Hid; decide
  have HO8:Hid ((⟨#[]⟩:ByteArray).size<=8):=Nat.zero_le _;have HC0:=zd (JA (s:=s) (d:=d) ⟨#[]⟩ hs2);clear hk13;go_wp2_with fail;refine (qR r.c f3 3 (by omega) (by omega) _).mono ?_;rintro e w4 ⟨rfl,rfl⟩;have hq:=yG r.c 3 (by omega);generalize qi r.c 3=q at hq ⊢;clear x0 x1 x2 x3 y0 y1 y2 y3 y4 z0 z1 z2 z3 z4;go_wp2_with fail
  go_loopw [141] (fun i wr=>∃(xs:List Ex) (v:Value) (ys:List Value),xs.length<=q/\i=.int .i64 xs.length/\CallAt (w.heap.size+3) (w.heap.size+2) ⟨#[]⟩ s d xs v ys w2 wr) (fun i _=>q - (intOf i).toNat)
  case atStart=>exact⟨[],_,[],Nat.zero_le _,rfl,HC0.out⟩
  case round=>
   obtain⟨xs,v,ys,hxq,rfl,hca⟩:=hrel;have HCa:=zd hca;have HBr:Hid (Below w.heap.size w wr):=HBw.out.trans (hca.below.mono (by omega))
   by_cases hlt:xs.length<q
   ·have hlt':(xs.length:Int)<(q:Int):=by omega
    clear hca HC0;go_wp2_with fail;refine Code.wp_mono ?_ (Jz xs.length (by omega) _ _ _ _ _ _ _ _ (by omega) (by omega) d (w.heap.size+2) (w.heap.size+3) _ _ _ _ _ _ _ _ _ _ _ _ _ _ _ _ _ _ _ _ _ _ _ _ _ _ _ _ _ _ _ _ _ _ _ _ _ _ _ _ _ _ _ _ _ _ _ _ _ _ _ _ _ _ _ _ _ _ _ _ _ _ _ _ _ _ _ _ _ _ _ _ _ _ _ _ _ _ _ _ _ _ _ _ _ _ _ _ _ _ _ _ _ _ _ _ _ _ _ _ _ _ _ _ _ _ _ _ _ _ _ _ _ _ _ _ _ _ _ _ _ _ _ _ _ _ _ _ _ _ _ _ _ _ _ _ _ _ _ _ _ _ _ _ _ _ _ _ _ _ _ _ _ _ _ ⟨#[]⟩ s xs rfl v ys w2 wr HCa.out (by omega) (fun W' hb'=>?_))
    ·intro e a w' h
     cases e with
     |normal=>
      obtain⟨v144,v145,v146,v147,v148,v149,v150,v151,v152,v153,v154,v155,v156,v157,v158,rfl,x,v',ys',hca'⟩:=h;have HCa':=zd hca';clear hca';go_wp2_with fail;exact⟨⟨xs++[x],v',ys',by simp; omega,by simp,HCa'.out⟩,by simp[intOf]; omega⟩
     |_=>exact h.elim
    ·have hb2:=HBr.out.trans (hb'.mono HBr.out.size)
     split
     ·exact HR.out W' hb2 _ _ HPh.out
     ·exact HR.out W' hb2 _ _ HPo.out
   ·have hlt':¬(xs.length:Int)<(q:Int):=by omega
    obtain⟨_,⟨y0,y1,y2,y3,y4⟩,z0,z1,z2,z3,z4⟩:=HFacts.out wr hca.below;have c0:wr.cell? ⟨w.heap.size+2,0,none⟩=some (.int .i64 4):=by rw[cell_of_row _ _ _ _ _ _ hca.box]; rfl
    have c1:wr.cell? ⟨w.heap.size+2,1,none⟩=some (.int .i64 0):=by rw[cell_of_row _ _ _ _ _ _ hca.box]; rfl
    have c2:wr.cell? ⟨w.heap.size+2,2,none⟩=some (.string ⟨#[]⟩):=by rw[cell_of_row _ _ _ _ _ _ hca.box]; rfl
    have c3:wr.cell? ⟨w.heap.size+2,3,none⟩=some (.string s):=by rw[cell_of_row _ _ _ _ _ _ hca.box]; rfl
    have c4:wr.cell? ⟨w.heap.size+2,4,none⟩=some v:=by rw[cell_of_row _ _ _ _ _ _ hca.box]; rfl
    have HFin:Hid (∀u0 u1 u2 u3 u4,xQ w.heap.size d (.returned (.agg #[.int .i64 4,.int .i64 0,.string ⟨#[]⟩,.string s,v])) (yY wr w.heap.size u0 u1 u2 u3 u4)):=fun u0 u1 u2 u3 u4=>by
     obtain⟨a,m,cap,hv,hex⟩:=Xe hca (n:=w.heap.size) (by omega) (by omega) HO8.out hs8 (by omega) u0 u1 u2 u3 u4;exact⟨_,4,0,_,_,a,m,cap,by rw[hv],hex,Jy (by omega) HI.out HO.out (by omega) hca.ok⟩
    obtain⟨va,vm,vc,rfl⟩:∃va vm vc,v=.slice va vm vc:=by
     obtain⟨a,m,cap,hv,_⟩:=Xe hca (n:=w.heap.size) (by omega) (by omega) HO8.out hs8 (by omega) v v v v v;exact⟨a,m,cap,hv⟩
    clear hca HC0 HCa;go_wp2_with fail;exact bodyPost_ret (v:=.agg #[.int .i64 4,.int .i64 0,.string ⟨#[]⟩,.string s,.slice va vm vc]) (by simp[results,Tryz.results34,go_sem,y0,y1,y2,y3,y4]) rfl ⟨HFin.out _ _ _ _ _,HSet.out _ _ _ _ _ _ HBr.out⟩
theorem V1:∀(m d:Nat),1<=d->d+m=5->∀(S:Nat->Prop) (l:List Rw) (v:Value) (ps:List Fd) (pv:Value) (w:World),(∀b,S b->b<w.heap.size)->ze S (qK w) 4 l v->kZ S w ps pv->qz w->
  Calls Tryz.prog 34 #[v,pv,.int .i64 d] w fun e w'=>xQ w.heap.size d e w'/\Below w.heap.size w w':=by
 intro m
 induction m with
 |zero=>
  intro d hd hm S l v ps pv w hS hv hps hnm
  cases l with
  |nil=>exact zbc d hd (by omega) S v ps pv w hv hps
  |cons r l=>exact KS d hd (by omega) S r l v ps pv w hS hv hps hnm (fun h=>absurd h (by omega))
 |succ m ih=>
  intro d hd hm S l v ps pv w hS hv hps hnm
  cases l with
  |nil=>exact zbc d hd (by omega) S v ps pv w hv hps
  |cons r l=>
   have HRec:=zd (ih (d+1) (by omega) (by omega))
   by_cases h7:qi r.kind 16<7
   ·exact KS d hd (by omega) S r l v ps pv w hS hv hps hnm (fun _=>h7)
   ·by_cases h12:qi r.kind 16<12
    ·exact zgl d hd (by omega) HRec S r l v ps pv w hS hv hps hnm (by omega) (by omega) h12
    ·exact zeN d hd (by omega) HRec S r l v ps pv w hS hv hps hnm (by omega) (by omega)
end Go.Proofs.YtedpiamfpbdhoaaGreatDoor
