import Derived.Test.YtedpiamfpbdhoaaGreatDoorJFg13
set_option maxHeartbeats 40000000
set_option maxRecDepth 100000
namespace Go.Proofs.YtedpiamfpbdhoaaGreatDoor
open Go.RowKit
def jw (nm var:ByteArray) (pv:Value) (k1:Int) (f1 x1:ByteArray) (rv:Value):Array Value:=#[.string nm,.string var,pv,.int .i64 k1,.string f1,.string x1,rv,.int .i64 0,.int .i64 0,.string ⟨#[]⟩,.string ⟨#[]⟩,.slice none 0 0]
structure FnAt (base F:Nat) (nm var:ByteArray) (k1:Int) (f1 x1:ByteArray) (rv:Value) (ps:List Fd) (pv:Value) (ys:List Value) (Wb W:World):Prop where
 box:W.heap[F]? = some (.cells (jw nm var pv k1 f1 x1 rv) 72 (0,0))
 hF:F<base
 own:W.ownsRow base 86 5 pv ps.length ys
 items:∀j (hj:j<ps.length),∃cs,cs.length=5/\(∀t,t<5->ys[j * 5+t]? = cs[t]?)/\FdC (vA base pv W) W ps[j] cs
 ok:∀p∈ps,(zf p.name=true/\p.name.size<=8)/\zl p.is 1=0
 same:∀c,c<base->c≠F->W.heap[c]? = Wb.heap[c]?
 still:W.os=Wb.os/\W.tape=Wb.tape/\W.output=Wb.output
 size:Wb.heap.size<=W.heap.size
 room:base<=W.heap.size
theorem X1 {base F:Nat} {nm var:ByteArray} {k1:Int} {f1 x1:ByteArray} {rv:Value} {ps:List Fd} {pv:Value} {ys cs:List Value} {Wb W W5 w1:World} {g cap:Nat} {x:Fd} (h:FnAt base F nm var k1 f1 x1 rv ps pv ys Wb W) (hb5:Below W.heap.size W W5) (hg:W5.grownBy w1 pv.ownBlock)
  (hown1:w1.ownsRow base 86 5 (.slice (some ⟨g,0,none⟩) (ps.length+1) cap) (ps.length+1) (ys++cs)) (hat:pv.ownBlock=some g\/g=W5.heap.size) (hcs:cs.length=5) (hx:FdC (vA base pv W) W x cs) (hok:(zf x.name=true/\x.name.size<=8)/\zl x.is 1=0) :
  FnAt base F nm var k1 f1 x1 rv (ps++[x]) (.slice (some ⟨g,0,none⟩) (ps.length+1) cap) (ys++cs) Wb (w1.setCell ⟨F,2,none⟩ (.slice (some ⟨g,0,none⟩) (ps.length+1) cap)):=by
 have e:(ps++[x]).length=ps.length+1:=by simp
 have hyl:ys.length=ps.length * 5:=h.own.1;have hroom:=h.room;have hFb:=h.hF;have hs5:=hb5.size;have hs1:=hg.size;have hin:∀b,pv.ownBlock=some b->base<=b/\b<W.heap.size:=fun b hb=>zk h.own b hb
 have hX1:w1.heap[F]? = some (.cells (jw nm var pv k1 f1 x1 rv) 72 (0,0)):=(hg.block F (by omega) (fun e=>by have:=hin F e.symm; omega)).trans ((hb5.block F (by omega)).trans h.box);have hsz:(w1.setCell ⟨F,2,none⟩ (.slice (some ⟨g,0,none⟩) (ps.length+1) cap)).heap.size=w1.heap.size:=zT _ _ _;have hold:∀b,b<W.heap.size->b≠F->pv.ownBlock≠some b->(w1.setCell ⟨F,2,none⟩ (.slice (some ⟨g,0,none⟩) (ps.length+1) cap)).heap[b]? = W.heap[b]?:=fun b hb hne hnb=>by
  rw[Below.heap_setCell _ _ _ _ hne,hg.block b (by omega) (fun e=>hnb e.symm),hb5.block b hb]
 have hk:Keeps (vA base pv W) (vA base (.slice (some ⟨g,0,none⟩) (ps.length+1) cap) (w1.setCell ⟨F,2,none⟩ (.slice (some ⟨g,0,none⟩) (ps.length+1) cap))) W (w1.setCell ⟨F,2,none⟩ (.slice (some ⟨g,0,none⟩) (ps.length+1) cap)):=
  ⟨fun b hb=>by
   obtain⟨h1,h2,h3⟩:=hb;exact hold b h2 (by omega) h3,fun b hb=>by
   obtain⟨h1,h2,h3⟩:=hb;refine⟨h1,by rw[hsz]; omega,fun e=>?_⟩;have:b=g:=by simpa [Value.ownBlock] using e.symm
   subst this
   rcases hat with h4|h4
   ·exact h3 h4
   ·omega⟩
 refine⟨?_,hFb,?_,?_,?_,?_,?_,by rw[hsz]; have:=h.size; omega,by rw[hsz]; omega⟩
 ·rw[vM hX1]; simp[jw]
 ·rw[e]; exact ownsRow_setCell_below hown1 (a:=⟨F,2,none⟩) hFb _
 ·intro j hj
  by_cases hjx:j<ps.length
  ·obtain⟨c,h1,h2,h3⟩:=h.items j hjx
   refine⟨c,h1,fun t ht=>?_,?_⟩
   ·rw[List.getElem?_append_left (by omega)]
    exact h2 t ht
   ·rw[List.getElem_append_left hjx]
    exact yD hk h3
  ·have hje:j=ps.length:=by omega
   subst hje;refine⟨cs,hcs,fun t _=>?_,?_⟩
   ·rw[List.getElem?_append_right (by omega),hyl]
    congr 1
    omega
   ·rw[List.getElem_append_right (Nat.le_refl _)]
    simp only[Nat.sub_self,List.getElem_cons_zero];exact yD hk hx
 ·intro y hy
  rcases List.mem_append.1 hy with h1|h1
  ·exact h.ok y h1
  ·rw[List.mem_singleton.1 h1]; exact hok
 ·intro c hc hne
  rw[hold c (by omega) hne (fun e=>by have:=hin c e; omega)];exact h.same c hc hne
 ·obtain⟨a1,a2,a3⟩:=h.still
  exact⟨hg.os.trans (hb5.os.trans a1),hg.tape.trans (hb5.tape.trans a2),hg.output.trans (hb5.output.trans a3)⟩
theorem FnAt.params {base F:Nat} {nm var:ByteArray} {k1:Int} {f1 x1:ByteArray} {rv:Value} {ps:List Fd} {pv:Value} {ys:List Value} {Wb W:World} (h:FnAt base F nm var k1 f1 x1 rv ps pv ys Wb W) (hl:ps.length<=8):ze (zm base W) (qO (zm base W) W) 5 ps pv:=by
 rcases h.own.2 with ⟨h1,h2⟩|⟨g,cap,cur,h1,hb,hg,hc,hm,_⟩
 ·have hx0:ps=[]:=List.eq_nil_of_length_eq_zero h2
  subst hx0;subst h1;exact⟨none,0,rfl,⟨by simp,by simp⟩,Or.inl rfl⟩
 ·subst h1
  refine⟨_,cap,rfl,⟨by unfold maxLen; omega,hc⟩,Or.inr ⟨g,0,rfl,⟨hb,vQ hg⟩,qA.mk fun j hj=>?_⟩⟩;obtain⟨cs,h3,h4,h5⟩:=h.items j hj;refine zaV h3 (yD ⟨fun _ _=>rfl,fun b hb'=>⟨hb'.1,hb'.2.1⟩⟩ h5) (fun t u hu=>?_);have ht:t<5:=by rw[<- h3]; exact (List.getElem?_eq_some_iff.1 hu).1
  rw[Nat.zero_add];exact kW h.own _ _ ((h4 t ht).trans hu)
theorem zeR:(Tryz.prog.info? 67).map (·.size)=some 4:=by kernel_rfl
theorem zeS (j:Nat) (hj:j<2) (W:World):∃s:ByteArray,(W.alloc (.cells #[.string ⟨#[112]⟩,.string ⟨#[113]⟩] 9)).drew.cell? ⟨W.heap.size,j,none⟩=some (.string s)/\zf s=true/\s.size<=8:=by
 have hc:(W.alloc (.cells #[.string ⟨#[112]⟩,.string ⟨#[113]⟩] 9)).drew.cell? ⟨W.heap.size,j,none⟩=(#[.string ⟨#[112]⟩,.string ⟨#[113]⟩]:Array Value)[j]?:=by
  show (W.alloc _).cell? _=_;rw[World.cell?_alloc_new]
 have:j=0\/j=1:=by omega
 rcases this with rfl|rfl
 ·exact⟨⟨#[112]⟩,by rw[hc]; simp,by decide +kernel,by decide⟩
 ·exact⟨⟨#[113]⟩,by rw[hc]; simp,by decide +kernel,by decide⟩
def zeT:Array Oper:=#[⟨some 72,Op.fieldAddr 72 (Operand.tmp 8) 2,0,"raw.go:107",#[],none⟩,⟨some 73,Op.load 38 (Operand.tmp 72),38,"raw.go:107",#[⟨0,.data⟩],none⟩,⟨some 74,Op.buildSlice 37 2 #[(0,Operand.const (Value.string { data:=#[112] })),(1,Operand.const (Value.string { data:=#[113] }))],37,"raw.go:107",#[],none⟩,⟨some 75,Op.move (Operand.tmp 9),3,"raw.go:107",#[],none⟩,⟨some 76,Op.indexAddr 37 (Operand.tmp 74) (Operand.tmp 75),0,"raw.go:107",#[⟨2,.data⟩,⟨3,.data⟩],none⟩,⟨some 77,Op.load 9 (Operand.tmp 76),9,"raw.go:107",#[⟨4,.data⟩],none⟩,⟨some 78,Op.load 67 (Operand.tmp 10),67,"raw.go:107",#[],none⟩,⟨some 79,Op.build 86 #[(0,Operand.tmp 77),(1,Operand.tmp 78)],86,"raw.go:107",#[⟨5,.data⟩,⟨6,.data⟩],none⟩,⟨some 80,Op.buildSlice 38 1 #[(0,Operand.tmp 79)],38,"raw.go:107",#[⟨7,.data⟩],none⟩,⟨some 81,Op.call { callee:=Callee.builtin Builtin.append,args:=#[Operand.tmp 73,Operand.tmp 80],argTypes:=#[38,38] },38,"raw.go:107",#[⟨1,.data⟩,⟨8,.data⟩],none⟩,⟨some 82,Op.fieldAddr 72 (Operand.tmp 8) 2,0,"raw.go:107",#[⟨0,.phase⟩,⟨1,.phase⟩,⟨2,.phase⟩,⟨3,.phase⟩,⟨4,.phase⟩,⟨5,.phase⟩,⟨6,.phase⟩,⟨7,.phase⟩,⟨8,.phase⟩,⟨9,.phase⟩],none⟩,⟨none,Op.store 38 (Operand.tmp 82) (Operand.tmp 81),0,"raw.go:107",#[⟨10,.data⟩,⟨9,.data⟩,⟨9,.chain⟩,⟨0,.phase⟩,⟨1,.phase⟩,⟨2,.phase⟩,⟨3,.phase⟩,⟨4,.phase⟩,⟨5,.phase⟩,⟨6,.phase⟩,⟨7,.phase⟩,⟨8,.phase⟩,⟨9,.phase⟩],none⟩]
theorem QW (t0 t1 t2 t3 t4 t5 t6 t7 t11 t12 t13 t14 t15 t16 t17 t18 t19 t20 t21 t22 t23 t24 t25 t26 t27 t28 t29 t30 t31 t32 t33 t34 t35 t36 t37 t38 t39 t40 t41 t42 t43 t44 t45 t46 t47 t48 t49 t50 t51 t52 t53 t54 t55 t56 t57 t58 t59 t60 t61 t62 t63 t64 t65 t66 t67 t68 t69 t70 t71 t72 t73 t74 t75 t76 t77 t78 t79 t80 t81 t82 t83 t84 t85 t86 t87 t88 t89 t90 t91 t92 t93 t94 t95 t96 t97 t98 t99 t100 t101 t102 t103 t104 t105 t106 t107 t108 t109 t110 t111 t112 t113 t114 t115 t116 t117 t118 t119 t120 t121 t122 t123 t124 t125 t126 t127 t128 t129 t130 t131 t132:Value) (j:Nat) (hj:j<2) (F I base:Nat) (nm var:ByteArray) (k1:Int) (f1 x1:ByteArray) (rv:Value) (ps:List Fd) (hps:ps.length<=8) (pv:Value) (ys:List Value) (Wb W:World) (hat:FnAt base F nm var k1 f1 x1 rv ps pv ys Wb W)
  (t:Ty) (k2:Int) (f2 x2:ByteArray) (a2:Option Addr) (m2 c2:Nat) (hty:xJ (vA base pv W) W t k2 f2 x2 (.slice a2 m2 c2)) (hok:zl t 1=0) (hI:W.rangeAt I 0 [.int .i64 k2,.string f2,.string x2,.slice a2 m2 c2]) (hIW:I<W.heap.size) (hIF:I≠F) (hIo:pv.ownBlock≠some I) :
  Code.wp Tryz.prog (Code.region 18 zeT true) (Zn fun a w=>∃v72 v73 v74 v75 v76 v77 v78 v79 v80 v81 v82,a={ tmps:=#[t0,t1,t2,t3,t4,t5,t6,t7,(.pointer (some ⟨F,0,none⟩)),(.int .i64 j),(.pointer (some ⟨I,0,none⟩)),t11,t12,t13,t14,t15,t16,t17,t18,t19,t20,t21,t22,t23,t24,t25,t26,t27,t28,t29,t30,t31,t32,t33,t34,t35,t36,t37,t38,t39,t40,t41,t42,t43,t44,t45,t46,t47,t48,t49,t50,t51,t52,t53,t54,t55,t56,t57,t58,t59,t60,t61,t62,t63,t64,t65,t66,t67,t68,t69,t70,t71,v72,v73,v74,v75,v76,v77,v78,v79,v80,v81,v82,t83,t84,t85,t86,t87,t88,t89,t90,t91,t92,t93,t94,t95,t96,t97,t98,t99,t100,t101,t102,t103,t104,t105,t106,t107,t108,t109,t110,t111,t112,t113,t114,t115,t116,t117,t118,t119,t120,t121,t122,t123,t124,t125,t126,t127,t128,t129,t130,t131,t132],defers:=[] }/\∃x v' ys',FnAt base F nm var k1 f1 x1 rv (ps++[x]) v' ys' Wb w) { tmps:=#[t0,t1,t2,t3,t4,t5,t6,t7,(.pointer (some ⟨F,0,none⟩)),(.int .i64 j),(.pointer (some ⟨I,0,none⟩)),t11,t12,t13,t14,t15,t16,t17,t18,t19,t20,t21,t22,t23,t24,t25,t26,t27,t28,t29,t30,t31,t32,t33,t34,t35,t36,t37,t38,t39,t40,t41,t42,t43,t44,t45,t46,t47,t48,t49,t50,t51,t52,t53,t54,t55,t56,t57,t58,t59,t60,t61,t62,t63,t64,t65,t66,t67,t68,t69,t70,t71,t72,t73,t74,t75,t76,t77,t78,t79,t80,t81,t82,t83,t84,t85,t86,t87,t88,t89,t90,t91,t92,t93,t94,t95,t96,t97,t98,t99,t100,t101,t102,t103,t104,t105,t106,t107,t108,t109,t110,t111,t112,t113,t114,t115,t116,t117,t118,t119,t120,t121,t122,t123,t124,t125,t126,t127,t128,t129,t130,t131,t132],defers:=[] } W:=by
 have hFb:=hat.hF;have hroom:=hat.room;have hFW:F<W.heap.size:=by omega
 have hj2:(j:Int)<2:=by omega
 obtain⟨s,hjc,hsI,hs8⟩:=zeS j hj W;have HsI:=zd hsI;have hc0:W.drew.cell? ⟨F,2,none⟩=some pv:=by
  show W.cell? _=_;rw[cell_of_row _ _ _ _ _ _ hat.box]; rfl
 have hca:(W.alloc (.cells #[.string ⟨#[112]⟩,.string ⟨#[113]⟩] 9)).drew.cell? ⟨F,2,none⟩=some pv:=by
  show (W.alloc _).cell? _=_;rw[World.cell?_alloc_old _ _ _ (by show F≠_; omega)]; exact hc0
 have hcb:((W.alloc (.cells #[.string ⟨#[112]⟩,.string ⟨#[113]⟩] 9)).alloc (.cells #[.string s,.int .i64 k2,.string f2,.string x2,.slice a2 m2 c2] 86)).drew.cell? ⟨F,2,none⟩=some pv:=by
  show ((W.alloc _).alloc _).cell? _=_;rw[World.cell?_alloc_old _ _ _ (by show F≠_; simp; omega)]; exact hca
 have HS0:=zd ((World.rangeAt_drew _ _ _ _).2 hI);have HSa:=zd ((World.rangeAt_drew _ _ _ _).2 (World.rangeAt_alloc hI (.cells #[.string ⟨#[112]⟩,.string ⟨#[113]⟩] 9)));have HSb:=zd ((World.rangeAt_drew _ _ _ _).2 (World.rangeAt_alloc (World.rangeAt_alloc hI (.cells #[.string ⟨#[112]⟩,.string ⟨#[113]⟩] 9)) (.cells #[.string s,.int .i64 k2,.string f2,.string x2,.slice a2 m2 c2] 86)));have HB5:Hid (Below W.heap.size W ((W.alloc (.cells #[.string ⟨#[112]⟩,.string ⟨#[113]⟩] 9)).alloc (.cells #[.string s,.int .i64 k2,.string f2,.string x2,.slice a2 m2 c2] 86)).drew):=(((Below.refl _ _).alloc (Nat.le_refl _) _).alloc (by simp) _).drew;have HHs:Hid (((W.alloc (.cells #[.string ⟨#[112]⟩,.string ⟨#[113]⟩] 9)).alloc (.cells #[.string s,.int .i64 k2,.string f2,.string x2,.slice a2 m2 c2] 86)).drew.heap.size=W.heap.size+2):=by show ((W.alloc _).alloc _).heap.size=_; simp
 have HNews:Hid (∀j u,([.string s,.int .i64 k2,.string f2,.string x2,.slice a2 m2 c2]:List Value)[j]? = some u->((W.alloc (.cells #[.string ⟨#[112]⟩,.string ⟨#[113]⟩] 9)).alloc (.cells #[.string s,.int .i64 k2,.string f2,.string x2,.slice a2 m2 c2] 86)).drew.cell? ((⟨W.heap.size+1,0,none⟩:Addr).add j)=some u):=by
  refine World.news_of_block (cs:=#[.string s,.int .i64 k2,.string f2,.string x2,.slice a2 m2 c2]) (t:=86) (fr:=(0,0)) ?_;have h:=heap_alloc_new (W.alloc (.cells #[.string ⟨#[112]⟩,.string ⟨#[113]⟩] 9)) (.cells #[.string s,.int .i64 k2,.string f2,.string x2,.slice a2 m2 c2] 86);rw[show (W.alloc (.cells #[.string ⟨#[112]⟩,.string ⟨#[113]⟩] 9)).heap.size=W.heap.size+1 by simp] at h;exact h
 have HOne:Hid (∀u∈([.string s,.int .i64 k2,.string f2,.string x2,.slice a2 m2 c2]:List Value),u.oneCell'=true):=by intro u hu; simp at hu; rcases hu with rfl|rfl|rfl|rfl|rfl <;> rfl
 have HFarF:Hid (some F≠pv.ownBlock):=fun h=>by have:=zk hat.own _ h.symm; omega
 have HFarI:Hid (some I≠pv.ownBlock):=fun h=>hIo h.symm
 have HX:Hid (FdC (vA base pv W) W ⟨s,t⟩ [.string s,.int .i64 k2,.string f2,.string x2,.slice a2 m2 c2]):=⟨k2,f2,x2,a2,m2,c2,rfl,by unfold maxLen; show s.size<=_; omega,hty⟩
 have HOk:=zd hok;have HAt:=zd hat;have HOwn:Hid (((W.alloc (.cells #[.string ⟨#[112]⟩,.string ⟨#[113]⟩] 9)).alloc (.cells #[.string s,.int .i64 k2,.string f2,.string x2,.slice a2 m2 c2] 86)).drew.ownsRow base 86 5 pv ps.length ys):=Zh hat.own HB5.out;obtain⟨i0,hi0,hz0,hz1,hz2⟩:=info_parts Vh;have HI0:=zd hi0;have HZ0:=zd hz0;have HZ1:=zd hz1;have HZ2:=zd hz2;clear hat hi0 hz0 hz1 hz2 hI hty hok hIo hsI;unfold zeT;refine wp_region_held_drew (S:=fun w'=>w'.rangeAt I 0 [.int .i64 k2,.string f2,.string x2,.slice a2 m2 c2]) (by kernel_rfl) HS0.out (fun hHeld=>?_);clear hHeld;refine zh 0 rfl rfl (by kernel_rfl) (by kernel_rfl) (by kernel_rfl) (fun _ _ _ h=>h) (v:=.pointer (some ⟨F,2,none⟩)) (Or.inl ⟨by rfl,fun w hw=>by go_simp⟩) HS0.out ?_;refine zh 3 rfl rfl (by kernel_rfl) (by kernel_rfl) (by kernel_rfl) (fun _ _ _ h=>h) (v:=.int .i64 j) (Or.inl ⟨by rfl,fun w hw=>by go_simp⟩) HS0.out ?_;refine zh 6 rfl rfl (by kernel_rfl) (by kernel_rfl) (by kernel_rfl) (fun _ _ _ h=>h) (yieldsIf_load_mid (by rfl) _ _ rfl _ _ rfl [.int .i64 k2,.string f2,.string x2,.slice a2 m2 c2] _ (fun _ h=>h) Tryz.underlying67 rfl zeR) HS0.out ?_;refine xz 1 2 (by kernel_rfl) rfl rfl rfl rfl (fun K hK=>?_) (fun K hK=>?_)
 ·have HK:=zd hK
  clear hK
  go_simp
  refine HK.out _ _ HS0.out ?_;clear HK K;refine zg 2 (by kernel_rfl) rfl rfl (fun K hK=>?_);have HK:=zd hK;clear hK
  go_simp
  refine HK.out _ _ HSa.out ?_;clear HK K;refine zh 4 rfl rfl (by kernel_rfl) (by kernel_rfl) (by kernel_rfl) (fun _ _ _ h=>h) (v:=.pointer (some ⟨W.heap.size,j,none⟩)) (Or.inl ⟨by rfl,fun w hw=>by go_simp⟩) HSa.out ?_;refine zg 5 (by kernel_rfl) rfl rfl (fun K hK=>?_);have HK:=zd hK;clear hK
  go_simp
  refine HK.out _ _ HSa.out ?_;clear HK K;refine zh 7 rfl rfl (by kernel_rfl) (by kernel_rfl) (by kernel_rfl) (fun _ _ _ h=>h) (v:=.agg #[.string s,.int .i64 k2,.string f2,.string x2,.slice a2 m2 c2]) (Or.inl ⟨by rfl,fun w hw=>by go_simp⟩) HSa.out ?_;refine zg 8 (by kernel_rfl) rfl rfl (fun K hK=>?_);have HK:=zd hK;clear hK
  go_simp
  refine HK.out _ _ HSb.out ?_;clear HK K;refine zg 9 (by kernel_rfl) rfl rfl (fun K hK=>?_);refine wp_append_lies _ _ _ _ rfl base 86 i0 _ 5 80 Tryz.underlying38 HI0.out HZ0.out HZ1.out HZ2.out rfl (by omega) pv ps.length ys rfl HOwn.out ⟨W.heap.size+1,0,none⟩ 1 1 [.string s,.int .i64 k2,.string f2,.string x2,.slice a2 m2 c2] rfl rfl HNews.out HOne.out (by omega) (by unfold maxLen; omega) (by omega) (by rw[HHs.out]; omega) _ rfl (fun g cap w1 hown1 hgrow hat1 hlt=>?_);have HP:=zd (X1 HAt.out HB5.out hgrow hown1 hat1 rfl HX.out ⟨⟨HsI.out,hs8⟩,HOk.out⟩);have hb1:w1.heap[F]? = some (.cells (jw nm var pv k1 f1 x1 rv) 72 (0,0)):=(hgrow.block F (by rw[HHs.out]; omega) HFarF.out).trans ((HB5.out.block F hFW).trans HAt.out.box);have hcF:w1.cell? ⟨F,2,none⟩=some pv:=by rw[cell_of_row w1 F 2 _ _ _ hb1]; rfl
  have hfF:w1.frozen? ⟨F,2,none⟩=false:=Lib.frozen_of_heap hb1 2;have HS3:Hid (w1.rangeAt I 0 [.int .i64 k2,.string f2,.string x2,.slice a2 m2 c2]):=fun jj u hu=>(hgrow.cell_far ⟨I,0+jj,none⟩ (by rw[HHs.out]; show I<_; omega) HFarI.out).trans (HSb.out jj u hu)
  refine hK _ _ HS3.out ?_;clear hK K hgrow hown1 hb1 hc0 hca hcb;refine zh 10 rfl rfl (by kernel_rfl) (by kernel_rfl) (by kernel_rfl) (fun _ _ _ h=>h) (v:=.pointer (some ⟨F,2,none⟩)) (Or.inl ⟨by rfl,fun w hw=>by go_simp⟩) HS3.out ?_;refine zg 11 (by kernel_rfl) rfl rfl (fun K hK=>?_);have HK:=zd hK;clear hK
  go_simp
  refine HK.out _ _ (fun jj u hu=>?_) (wpAnyH_done (by kernel_rfl) ⟨_,_,_,_,_,_,_,_,_,_,_,rfl,⟨s,t⟩,_,_,HP.out⟩ _);rw[World.cell?_setCell_other _ _ _ _ (by intro h; injection h with h _ _; omega)];exact HS3.out jj u hu
 ·have HK:=zd hK
  clear hK
  go_simp
  refine HK.out _ _ HSa.out ?_;clear HK K;refine zh 4 rfl rfl (by kernel_rfl) (by kernel_rfl) (by kernel_rfl) (fun _ _ _ h=>h) (v:=.pointer (some ⟨W.heap.size,j,none⟩)) (Or.inl ⟨by rfl,fun w hw=>by go_simp⟩) HSa.out ?_;refine xz 1 5 (by kernel_rfl) rfl rfl rfl rfl (fun K hK=>?_) (fun K hK=>?_)
  ·have HK:=zd hK
   clear hK
   go_simp
   refine HK.out _ _ HSa.out ?_;clear HK K;refine zg 5 (by kernel_rfl) rfl rfl (fun K hK=>?_);have HK:=zd hK;clear hK
   go_simp
   refine HK.out _ _ HSa.out ?_;clear HK K;refine zh 7 rfl rfl (by kernel_rfl) (by kernel_rfl) (by kernel_rfl) (fun _ _ _ h=>h) (v:=.agg #[.string s,.int .i64 k2,.string f2,.string x2,.slice a2 m2 c2]) (Or.inl ⟨by rfl,fun w hw=>by go_simp⟩) HSa.out ?_;refine zg 8 (by kernel_rfl) rfl rfl (fun K hK=>?_);have HK:=zd hK;clear hK
   go_simp
   refine HK.out _ _ HSb.out ?_;clear HK K;refine zg 9 (by kernel_rfl) rfl rfl (fun K hK=>?_);refine wp_append_lies _ _ _ _ rfl base 86 i0 _ 5 80 Tryz.underlying38 HI0.out HZ0.out HZ1.out HZ2.out rfl (by omega) pv ps.length ys rfl HOwn.out ⟨W.heap.size+1,0,none⟩ 1 1 [.string s,.int .i64 k2,.string f2,.string x2,.slice a2 m2 c2] rfl rfl HNews.out HOne.out (by omega) (by unfold maxLen; omega) (by omega) (by rw[HHs.out]; omega) _ rfl (fun g cap w1 hown1 hgrow hat1 hlt=>?_);have HP:=zd (X1 HAt.out HB5.out hgrow hown1 hat1 rfl HX.out ⟨⟨HsI.out,hs8⟩,HOk.out⟩);have hb1:w1.heap[F]? = some (.cells (jw nm var pv k1 f1 x1 rv) 72 (0,0)):=(hgrow.block F (by rw[HHs.out]; omega) HFarF.out).trans ((HB5.out.block F hFW).trans HAt.out.box);have hcF:w1.cell? ⟨F,2,none⟩=some pv:=by rw[cell_of_row w1 F 2 _ _ _ hb1]; rfl
   have hfF:w1.frozen? ⟨F,2,none⟩=false:=Lib.frozen_of_heap hb1 2;have HS3:Hid (w1.rangeAt I 0 [.int .i64 k2,.string f2,.string x2,.slice a2 m2 c2]):=fun jj u hu=>(hgrow.cell_far ⟨I,0+jj,none⟩ (by rw[HHs.out]; show I<_; omega) HFarI.out).trans (HSb.out jj u hu)
   refine hK _ _ HS3.out ?_;clear hK K hgrow hown1 hb1 hc0 hca hcb;refine zh 10 rfl rfl (by kernel_rfl) (by kernel_rfl) (by kernel_rfl) (fun _ _ _ h=>h) (v:=.pointer (some ⟨F,2,none⟩)) (Or.inl ⟨by rfl,fun w hw=>by go_simp⟩) HS3.out ?_;refine zg 11 (by kernel_rfl) rfl rfl (fun K hK=>?_);have HK:=zd hK;clear hK
   go_simp
   refine HK.out _ _ (fun jj u hu=>?_) (wpAnyH_done (by kernel_rfl) ⟨_,_,_,_,_,_,_,_,_,_,_,rfl,⟨s,t⟩,_,_,HP.out⟩ _);rw[World.cell?_setCell_other _ _ _ _ (by intro h; injection h with h _ _; omega)];exact HS3.out jj u hu
  ·have HK:=zd hK
   clear hK
   go_simp
   refine HK.out _ _ HSa.out ?_;clear HK K;refine zh 7 rfl rfl (by kernel_rfl) (by kernel_rfl) (by kernel_rfl) (fun _ _ _ h=>h) (v:=.agg #[.string s,.int .i64 k2,.string f2,.string x2,.slice a2 m2 c2]) (Or.inl ⟨by rfl,fun w hw=>by go_simp⟩) HSa.out ?_;refine xz 1 8 (by kernel_rfl) rfl rfl rfl rfl (fun K hK=>?_) (fun K hK=>?_)
   ·have HK:=zd hK
    clear hK
    go_simp
    refine HK.out _ _ HSa.out ?_;clear HK K;refine zg 8 (by kernel_rfl) rfl rfl (fun K hK=>?_);have HK:=zd hK;clear hK
    go_simp
    refine HK.out _ _ HSb.out ?_;clear HK K;refine zg 9 (by kernel_rfl) rfl rfl (fun K hK=>?_);refine wp_append_lies _ _ _ _ rfl base 86 i0 _ 5 80 Tryz.underlying38 HI0.out HZ0.out HZ1.out HZ2.out rfl (by omega) pv ps.length ys rfl HOwn.out ⟨W.heap.size+1,0,none⟩ 1 1 [.string s,.int .i64 k2,.string f2,.string x2,.slice a2 m2 c2] rfl rfl HNews.out HOne.out (by omega) (by unfold maxLen; omega) (by omega) (by rw[HHs.out]; omega) _ rfl (fun g cap w1 hown1 hgrow hat1 hlt=>?_);have HP:=zd (X1 HAt.out HB5.out hgrow hown1 hat1 rfl HX.out ⟨⟨HsI.out,hs8⟩,HOk.out⟩);have hb1:w1.heap[F]? = some (.cells (jw nm var pv k1 f1 x1 rv) 72 (0,0)):=(hgrow.block F (by rw[HHs.out]; omega) HFarF.out).trans ((HB5.out.block F hFW).trans HAt.out.box);have hcF:w1.cell? ⟨F,2,none⟩=some pv:=by rw[cell_of_row w1 F 2 _ _ _ hb1]; rfl
    have hfF:w1.frozen? ⟨F,2,none⟩=false:=Lib.frozen_of_heap hb1 2;have HS3:Hid (w1.rangeAt I 0 [.int .i64 k2,.string f2,.string x2,.slice a2 m2 c2]):=fun jj u hu=>(hgrow.cell_far ⟨I,0+jj,none⟩ (by rw[HHs.out]; show I<_; omega) HFarI.out).trans (HSb.out jj u hu)
    refine hK _ _ HS3.out ?_;clear hK K hgrow hown1 hb1 hc0 hca hcb;refine zh 10 rfl rfl (by kernel_rfl) (by kernel_rfl) (by kernel_rfl) (fun _ _ _ h=>h) (v:=.pointer (some ⟨F,2,none⟩)) (Or.inl ⟨by rfl,fun w hw=>by go_simp⟩) HS3.out ?_;refine zg 11 (by kernel_rfl) rfl rfl (fun K hK=>?_);have HK:=zd hK;clear hK
    go_simp
    refine HK.out _ _ (fun jj u hu=>?_) (wpAnyH_done (by kernel_rfl) ⟨_,_,_,_,_,_,_,_,_,_,_,rfl,⟨s,t⟩,_,_,HP.out⟩ _);rw[World.cell?_setCell_other _ _ _ _ (by intro h; injection h with h _ _; omega)];exact HS3.out jj u hu
   ·have HK:=zd hK
    clear hK
    go_simp
    refine HK.out _ _ HSb.out ?_;clear HK K;refine zg 1 (by kernel_rfl) rfl rfl (fun K hK=>?_);have HK:=zd hK;clear hK
    go_simp
    refine HK.out _ _ HSb.out ?_;clear HK K;refine zg 9 (by kernel_rfl) rfl rfl (fun K hK=>?_);refine wp_append_lies _ _ _ _ rfl base 86 i0 _ 5 80 Tryz.underlying38 HI0.out HZ0.out HZ1.out HZ2.out rfl (by omega) pv ps.length ys rfl HOwn.out ⟨W.heap.size+1,0,none⟩ 1 1 [.string s,.int .i64 k2,.string f2,.string x2,.slice a2 m2 c2] rfl rfl HNews.out HOne.out (by omega) (by unfold maxLen; omega) (by omega) (by rw[HHs.out]; omega) _ rfl (fun g cap w1 hown1 hgrow hat1 hlt=>?_);have HP:=zd (X1 HAt.out HB5.out hgrow hown1 hat1 rfl HX.out ⟨⟨HsI.out,hs8⟩,HOk.out⟩);have hb1:w1.heap[F]? = some (.cells (jw nm var pv k1 f1 x1 rv) 72 (0,0)):=(hgrow.block F (by rw[HHs.out]; omega) HFarF.out).trans ((HB5.out.block F hFW).trans HAt.out.box);have hcF:w1.cell? ⟨F,2,none⟩=some pv:=by rw[cell_of_row w1 F 2 _ _ _ hb1]; rfl
    have hfF:w1.frozen? ⟨F,2,none⟩=false:=Lib.frozen_of_heap hb1 2;have HS3:Hid (w1.rangeAt I 0 [.int .i64 k2,.string f2,.string x2,.slice a2 m2 c2]):=fun jj u hu=>(hgrow.cell_far ⟨I,0+jj,none⟩ (by rw[HHs.out]; show I<_; omega) HFarI.out).trans (HSb.out jj u hu)
    refine hK _ _ HS3.out ?_;clear hK K hgrow hown1 hb1 hc0 hca hcb;refine zh 10 rfl rfl (by kernel_rfl) (by kernel_rfl) (by kernel_rfl) (fun _ _ _ h=>h) (v:=.pointer (some ⟨F,2,none⟩)) (Or.inl ⟨by rfl,fun w hw=>by go_simp⟩) HS3.out ?_;refine zg 11 (by kernel_rfl) rfl rfl (fun K hK=>?_);have HK:=zd hK;clear hK
    go_simp
    refine HK.out _ _ (fun jj u hu=>?_) (wpAnyH_done (by kernel_rfl) ⟨_,_,_,_,_,_,_,_,_,_,_,rfl,⟨s,t⟩,_,_,HP.out⟩ _);rw[World.cell?_setCell_other _ _ _ _ (by intro h; injection h with h _ _; omega)];exact HS3.out jj u hu
structure MoGood (k:Nat) (mo:Mo):Prop where
 len:mo.uses.length+mo.types.length+mo.funcs.length<=k
 us:∀s∈mo.uses,qx s=0
 ts:∀f∈mo.types,zF f=0
 fs:∀f∈mo.funcs,xw f=0
theorem MoGood.ok {mo:Mo} {k:Nat} (hk:k<=9) (h:MoGood k mo):zI mo=0:=by
 have h1:=h.len;unfold zI;rw[if_neg (by unfold wrap64; omega)];rw[qW _ _ (fun j hj=>h.us _ (List.getElem_mem hj)),if_neg (by simp),qW _ _ (fun j hj=>h.ts _ (List.getElem_mem hj)),if_neg (by simp)];exact qW _ _ (fun j hj=>h.fs _ (List.getElem_mem hj))
theorem MoGood.use {mo:Mo} {k:Nat} {s:ByteArray} (h:MoGood k mo) (hs:zf s=true):MoGood (k+1) { mo with uses:=mo.uses++[s] }:=by
 refine⟨by have:=h.len; simp; omega,fun x hx=>?_,h.ts,h.fs⟩
 rcases List.mem_append.1 hx with h1|h1
 ·exact h.us x h1
 ·rw[List.mem_singleton.1 h1,qx,if_pos hs]
theorem MoGood.typ {mo:Mo} {k:Nat} {f:Fd} (h:MoGood k mo) (hf:zF f=0):MoGood (k+1) { mo with types:=mo.types++[f] }:=by
 refine⟨by have:=h.len; simp; omega,h.us,fun x hx=>?_,h.fs⟩
 rcases List.mem_append.1 hx with h1|h1
 ·exact h.ts x h1
 ·rw[List.mem_singleton.1 h1]; exact hf
theorem MoGood.fun {mo:Mo} {k:Nat} {f:Fu} (h:MoGood k mo) (hf:xw f=0):MoGood (k+1) { mo with funcs:=mo.funcs++[f] }:=by
 refine⟨by have:=h.len; simp; omega,h.us,h.ts,fun x hx=>?_⟩
 rcases List.mem_append.1 hx with h1|h1
 ·exact h.fs x h1
 ·rw[List.mem_singleton.1 h1]; exact hf
theorem FnAt.keep {base F:Nat} {nm var:ByteArray} {k1:Int} {f1 x1:ByteArray} {rv:Value} {ps:List Fd} {pv:Value} {ys:List Value} {Wb W W':World} (h:FnAt base F nm var k1 f1 x1 rv ps pv ys Wb W) (hb:Below W.heap.size W W'):FnAt base F nm var k1 f1 x1 rv ps pv ys Wb W':=by
 have hF:=h.hF;have hr:=h.room;have hs:=hb.size;have hk:Keeps (vA base pv W) (vA base pv W') W W':=⟨fun b hb'=>hb.block b hb'.2.1,fun b hb'=>⟨hb'.1,by have:=hb'.2.1; omega,hb'.2.2⟩⟩
 refine⟨(hb.block F (by omega)).trans h.box,hF,?_,fun j hj=>?_,h.ok,fun c hc hne=>(hb.block c (by omega)).trans (h.same c hc hne),?_,by have:=h.size; omega,by omega⟩
 ·refine⟨h.own.1,h.own.2.imp_right ?_⟩
  rintro ⟨g,cap,cur,rfl,hg0,hg,hr⟩;exact⟨g,cap,cur,rfl,hg0,(hb.block g (vQ hg)).trans hg,hr⟩
 ·obtain⟨cs,h1,h2,h3⟩:=h.items j hj
  exact⟨cs,h1,h2,yD hk h3⟩
 ·obtain⟨a1,a2,a3⟩:=h.still
  exact⟨hb.os.trans a1,hb.tape.trans a2,hb.output.trans a3⟩
theorem FnAt.below {base F n:Nat} {nm var:ByteArray} {k1:Int} {f1 x1:ByteArray} {rv:Value} {ps:List Fd} {pv:Value} {ys:List Value} {W0 Wb W:World} (h:FnAt base F nm var k1 f1 x1 rv ps pv ys Wb W) (hb:Below n W0 Wb) (hn:n<=F):Below n W0 W:=by
 obtain⟨a1,a2,a3⟩:=h.still;have hF:=h.hF;exact⟨a1.trans hb.os,a2.trans hb.tape,a3.trans hb.output,Nat.le_trans hb.size h.size,fun c hc=>(h.same c (by omega) (by omega)).trans (hb.block c hc)⟩
theorem FnAt.cells {base F:Nat} {nm var:ByteArray} {k1:Int} {f1 x1:ByteArray} {rv:Value} {ps:List Fd} {pv:Value} {ys:List Value} {Wb W:World} (h:FnAt base F nm var k1 f1 x1 rv ps pv ys Wb W) :
  W.cell? ⟨F,1,none⟩=some (.string var)/\W.cell? ⟨F,2,none⟩=some pv/\(W.cell? ⟨F,3,none⟩=some (.int .i64 k1)/\W.cell? ⟨F,4,none⟩=some (.string f1)/\W.cell? ⟨F,5,none⟩=some (.string x1)/\W.cell? ⟨F,6,none⟩=some rv)/\∀o,W.frozen? ⟨F,o,none⟩=false:=by
 have h0:=h.box;refine⟨?_,?_,⟨?_,?_,?_,?_⟩,fun o=>frozen_of_row _ _ _ _ _ h0⟩
 all_goals (rw[cell_of_row _ _ _ _ _ _ h0]; rfl)
theorem FnAt.cells2 {base F:Nat} {nm var:ByteArray} {k1:Int} {f1 x1:ByteArray} {rv:Value} {ps:List Fd} {pv:Value} {ys:List Value} {Wb W:World} (h:FnAt base F nm var k1 f1 x1 rv ps pv ys Wb W) :
  W.cell? ⟨F,0,none⟩=some (.string nm)/\W.cell? ⟨F,7,none⟩=some (.int .i64 0)/\W.cell? ⟨F,8,none⟩=some (.int .i64 0)/\W.cell? ⟨F,9,none⟩=some (.string ⟨#[]⟩)/\W.cell? ⟨F,10,none⟩=some (.string ⟨#[]⟩)/\W.cell? ⟨F,11,none⟩=some (.slice none 0 0):=by
 have h0:=h.box;refine⟨?_,?_,?_,?_,?_,?_⟩
 all_goals (rw[cell_of_row _ _ _ _ _ _ h0]; rfl)
theorem zgm {W W':World} {F:Nat} {s:ByteArray} {t:Ty} {k1:Int} {f1 x1:ByteArray} {b1:Option Addr} {m1 c1:Nat} (h:FnNew W W' F s t k1 f1 x1 b1 m1 c1):FnAt W'.heap.size F s ⟨#[]⟩ k1 f1 x1 (.slice b1 m1 c1) [] (.slice none 0 0) [] W' W':=
 ⟨h.box,vQ h.box,World.ownsRow_nil _ _ _ _,fun j hj=>(by simp at hj),fun p hp=>(by cases hp),fun _ _ _=>rfl,⟨rfl,rfl,rfl⟩,Nat.le_refl _,Nat.le_refl _⟩
theorem zbe {W W':World} {F:Nat} {s:ByteArray} {t:Ty} {k1:Int} {f1 x1:ByteArray} {b1:Option Addr} {m1 c1:Nat} (v:ByteArray) (h:FnNew W W' F s t k1 f1 x1 b1 m1 c1):FnAt W'.heap.size F s v k1 f1 x1 (.slice b1 m1 c1) [] (.slice none 0 0) [] (W'.setCell ⟨F,1,none⟩ (.string v)) (W'.setCell ⟨F,1,none⟩ (.string v)):=
 ⟨by rw[vM h.box]; simp[jw],vQ h.box,World.ownsRow_nil _ _ _ _,fun j hj=>(by simp at hj),fun p hp=>(by cases hp),fun _ _ _=>rfl,⟨rfl,rfl,rfl⟩,Nat.le_refl _,by rw[zT]; exact Nat.le_refl _⟩
structure FnGo (W Wb:World) (F:Nat) (s v:ByteArray) (t:Ty) (k1:Int) (f1 x1:ByteArray) (b1:Option Addr) (m1 c1:Nat):Prop where
 at0:FnAt Wb.heap.size F s v k1 f1 x1 (.slice b1 m1 c1) [] (.slice none 0 0) [] Wb Wb
 lo:W.heap.size<=F
 name:zf s=true/\s.size<=8
 var:zD v=true/\v.size<=8
 res:xJ (fun b=>W.heap.size<=b/\b<Wb.heap.size/\b≠F) Wb t k1 f1 x1 (.slice b1 m1 c1)
 ok:zl t 1=0
 below:Below W.heap.size W Wb
theorem FnNew.go {W W':World} {F:Nat} {s:ByteArray} {t:Ty} {k1:Int} {f1 x1:ByteArray} {b1:Option Addr} {m1 c1:Nat} (h:FnNew W W' F s t k1 f1 x1 b1 m1 c1):FnGo W W' F s ⟨#[]⟩ t k1 f1 x1 b1 m1 c1:=
 ⟨zgm h,h.lo,h.name,⟨by decide,by decide⟩,h.res,h.ok,h.below⟩
theorem FnNew.goVar {W W':World} {F:Nat} {s:ByteArray} {t:Ty} {k1:Int} {f1 x1:ByteArray} {b1:Option Addr} {m1 c1:Nat} (h:FnNew W W' F s t k1 f1 x1 b1 m1 c1) {v:ByteArray} (hv:zD v=true/\v.size<=8):FnGo W (W'.setCell ⟨F,1,none⟩ (.string v)) F s v t k1 f1 x1 b1 m1 c1:=by
 have e:(W'.setCell ⟨F,1,none⟩ (.string v)).heap.size=W'.heap.size:=zT _ _ _;refine⟨by rw[e]; exact zbe v h,h.lo,h.name,hv,h.res.keep ⟨fun b hb=>Below.heap_setCell _ _ _ _ hb.2.2,fun b hb=>⟨hb.1,by rw[e]; exact hb.2.1,hb.2.2⟩⟩,h.ok,h.below.setCell h.lo _⟩
theorem zgn {α:Type} {S:Nat->Prop} {P:α->Nat->Nat->Prop} {c:Nat} {l:List α} {a:Option Addr} {n cap:Nat} (h:ze S P c l (.slice a n cap)) {k:Nat} (hk:k<=l.length):ze S P c (l.take k) (.slice a k cap):=by
 obtain⟨a',cap',e,⟨h1,h2⟩,h3⟩:=h;injection e with e1 e2 e3
 subst e1 e2 e3;have hlen:(l.take k).length=k:=by rw[List.length_take]; omega
 refine⟨a,cap,by rw[hlen],⟨by rw[hlen]; omega,by rw[hlen]; omega⟩,?_⟩;rw[hlen]
 by_cases h0:k=0
 ·exact Or.inl h0
 ·rcases h3 with h3|⟨b,o,rfl,hb,hr⟩
  ·omega
  ·refine Or.inr ⟨b,o,rfl,hb,qA.mk fun i hi=>?_⟩
   have hi':i<l.length:=by rw[hlen] at hi; omega
   have:=hr.get i hi';rw[List.getElem_take];exact this
theorem zeU {w:World}:ModAt (w.heap.size+2) (w.heap.size+1) (w.heap.size+2) ⟨[],[],[]⟩ (.slice none 0 0) (.slice none 0 0) (.slice none 0 0) ((w.alloc (.cells #[.slice none 0 0,.slice none 0 0,.slice none 0 0] 41)).alloc (.cells #[.slice none 0 0,.slice none 0 0,.slice none 0 0] 41)):=by
 have hs:((w.alloc (.cells #[.slice none 0 0,.slice none 0 0,.slice none 0 0] 41)).alloc (.cells #[.slice none 0 0,.slice none 0 0,.slice none 0 0] 41)).heap.size=w.heap.size+2:=by simp
 refine⟨?_,by omega,Nat.le_refl _,by rw[hs]; exact Nat.le_refl _,⟨[],?_⟩,⟨[],?_⟩,⟨[],?_⟩⟩
 ·have:=heap_alloc_new (w.alloc (.cells #[.slice none 0 0,.slice none 0 0,.slice none 0 0] 41)) (.cells #[.slice none 0 0,.slice none 0 0,.slice none 0 0] 41)
  simpa using this
 ·exact⟨World.ownsRow_nil _ _ _ _,fun g hg=>(by cases hg),fun j hj=>(by simp at hj)⟩
 ·exact⟨World.ownsRow_nil _ _ _ _,fun g hg=>(by cases hg),fun j hj=>(by simp at hj)⟩
 ·exact⟨World.ownsRow_nil _ _ _ _,fun g hg=>(by cases hg),fun j hj=>(by simp at hj)⟩
theorem zgo {x:Fu} (h1:zf x.name=true) (h2:zD x.var=true) (h3:x.params.length<=8) (h4:∀p∈x.params,zF p=0) (h5:zl x.result 1=0) (h6:zx x.body 1=0):xw x=0:=by
 unfold xw;rw[if_neg (by rw[h1,h2]; simp),if_neg (by omega),qW _ _ (fun j hj=>h4 _ (List.getElem_mem hj)),if_neg (by simp),h5,if_neg (by simp)];exact h6
theorem FnAt.setRes {base F:Nat} {nm var:ByteArray} {k1:Int} {f1 x1:ByteArray} {rv:Value} {ps:List Fd} {pv:Value} {ys:List Value} {Wb W:World} (h:FnAt base F nm var k1 f1 x1 rv ps pv ys Wb W) (k:Int) (f x:ByteArray) (r:Value):FnAt base F nm var k f x r ps pv ys Wb (W.setCells F 3 [.int .i64 k,.string f,.string x,r]):=by
 have hF:=h.hF;have hr:=h.room;have hFW:F<W.heap.size:=by omega
 have hsz:=yl F [.int .i64 k,.string f,.string x,r] 3 W;have hoth:∀b,b≠F->b<W.heap.size->(W.setCells F 3 [.int .i64 k,.string f,.string x,r]).heap[b]? = W.heap[b]?:=fun b hb hb'=>World.heap_setCells_other _ _ _ _ hb' hb
 have hk:Keeps (vA base pv W) (vA base pv (W.setCells F 3 [.int .i64 k,.string f,.string x,r])) W (W.setCells F 3 [.int .i64 k,.string f,.string x,r]):=
  ⟨fun b hb=>hoth b (by have:=hb.1; omega) hb.2.1,fun b hb=>⟨hb.1,by rw[hsz]; exact hb.2.1,hb.2.2⟩⟩
 refine⟨?_,hF,?_,fun j hj=>?_,h.ok,fun c hc hne=>(hoth c hne (by omega)).trans (h.same c hc hne),?_,by rw[hsz]; exact h.size,by rw[hsz]; exact hr⟩
 ·rw[Zl _ h.box]; simp[vY,jw]
 ·refine⟨h.own.1,h.own.2.imp_right ?_⟩
  rintro ⟨g,cap,cur,rfl,hg0,hg,hr'⟩;exact⟨g,cap,cur,rfl,hg0,(hoth g (by omega) (vQ hg)).trans hg,hr'⟩
 ·obtain⟨cs,h1,h2,h3⟩:=h.items j hj
  exact⟨cs,h1,h2,yD hk h3⟩
 ·obtain⟨a1,a2,a3⟩:=h.still
  exact⟨(World.os_setCells _ _ _ _).trans a1,(vZ _ _ _ _).trans a2,(World.output_setCells _ _ _ _).trans a3⟩
theorem FnAt.there {base F:Nat} {nm var:ByteArray} {k1:Int} {f1 x1:ByteArray} {rv:Value} {ps:List Fd} {pv:Value} {ys:List Value} {Wb W:World} (h:FnAt base F nm var k1 f1 x1 rv ps pv ys Wb W) {o n:Nat} (hn:o+n<=12):W.there F o n:=by
 intro j hj;refine⟨?_,frozen_of_row _ _ _ _ _ h.box⟩;rw[cell_of_row _ _ _ _ _ _ h.box,Array.getElem?_eq_getElem (by simp[jw]; omega)]
 rfl
theorem Kb {W3 Wb wx w10:World} {F n1:Nat} {s v f x:ByteArray} {k:Int} {b1:Option Addr} {m1 c1:Nat} {ps:List Fd} {p1:Option Addr} {p2 p3:Nat} {ys:List Value} {t:Ty} {xb:Ex} {k3 q3:Int} {g3 y3:ByteArray} {a3:Option Addr} {m3 c3:Nat}
  (hat:FnAt Wb.heap.size F s v k f x (.slice b1 m1 c1) ps (.slice p1 p2 p3) ys Wb wx) (hp:ps.length<=8) (hb10:Below wx.heap.size wx w10) (hlo:W3.heap.size<=F) (hbw:Below W3.heap.size W3 Wb) (hname:zf s=true/\s.size<=8) (hvar:zD v=true/\v.size<=8)
  (hres:xJ (fun b=>W3.heap.size<=b/\b<Wb.heap.size/\b≠F) Wb t k f x (.slice b1 m1 c1)) (hok:zl t 1=0) (hex:xP (zm wx.heap.size w10) w10 xb k3 q3 g3 y3 (.slice a3 m3 c3)) (hxf:zx xb 1=0) (hn1:n1<=W3.heap.size) :
  (w10.setCells F 7 [.int .i64 k3,.int .i64 q3,.string g3,.string y3,.slice a3 m3 c3]).heap[F]? = some (.cells #[.string s,.string v,.slice p1 p2 p3,.int .i64 k,.string f,.string x,.slice b1 m1 c1,.int .i64 k3,.int .i64 q3,.string g3,.string y3,.slice a3 m3 c3] 72 (0,0))/\FuC (zm n1 (w10.setCells F 7 [.int .i64 k3,.int .i64 q3,.string g3,.string y3,.slice a3 m3 c3])) (w10.setCells F 7 [.int .i64 k3,.int .i64 q3,.string g3,.string y3,.slice a3 m3 c3]) ⟨s,v,ps,t,xb⟩ [.string s,.string v,.slice p1 p2 p3,.int .i64 k,.string f,.string x,.slice b1 m1 c1,.int .i64 k3,.int .i64 q3,.string g3,.string y3,.slice a3 m3 c3]/\xw ⟨s,v,ps,t,xb⟩=0/\Below W3.heap.size W3 (w10.setCells F 7 [.int .i64 k3,.int .i64 q3,.string g3,.string y3,.slice a3 m3 c3]):=by
 have h10:=hat.keep hb10;have hF:=h10.hF;have hr:=h10.room;have hrx:=hat.room;have hs3:=hbw.size;have hsz:=yl F [.int .i64 k3,.int .i64 q3,.string g3,.string y3,.slice a3 m3 c3] 7 w10;have hoth:∀b,b≠F->b<w10.heap.size->(w10.setCells F 7 [.int .i64 k3,.int .i64 q3,.string g3,.string y3,.slice a3 m3 c3]).heap[b]? = w10.heap[b]?:=fun b hb hb'=>World.heap_setCells_other _ _ _ _ hb' hb
 have hb3:=h10.below hbw hlo;have hsx:=hb10.size;refine⟨?_,?_,?_,?_⟩
 ·rw[Zl _ h10.box]; simp[vY,jw]
 ·refine⟨p1,p2,p3,k,f,x,b1,m1,c1,k3,q3,g3,y3,a3,m3,c3,rfl,by have:=hname.2; unfold maxLen; show s.size<=_; omega,by have:=hvar.2; unfold maxLen; show v.size<=_; omega,?_,?_,?_⟩
  ·refine zP ⟨fun b hb=>?_,fun b hb=>?_⟩ (h10.params hp)
   ·exact hoth b (by have:=hb.1; omega) hb.2
   ·exact⟨by have:=hb.1; omega,by rw[hsz]; exact hb.2⟩
  ·refine hres.keep ⟨fun b hb=>?_,fun b hb=>?_⟩
   ·rw[hoth b hb.2.2 (by have:=hb.2.1; omega)]
    exact h10.same b hb.2.1 hb.2.2
   ·exact⟨by have:=hb.1; omega,by rw[hsz]; have:=hb.2.1; omega⟩
  ·refine hex.keep ⟨fun b hb=>?_,fun b hb=>?_⟩
   ·exact hoth b (by have:=hb.1; have:=hat.hF; omega) hb.2
   ·exact⟨by have:=hb.1; omega,by rw[hsz]; exact hb.2⟩
 ·refine zgo hname.1 hvar.1 hp (fun p hp'=>?_) hok hxf
  obtain⟨⟨h1,_⟩,h2⟩:=hat.ok p hp';rw[zF,if_pos h1]; exact h2
 ·exact⟨(World.os_setCells _ _ _ _).trans hb3.os,(vZ _ _ _ _).trans hb3.tape,(World.output_setCells _ _ _ _).trans hb3.output,by rw[hsz]; exact hb3.size,fun c hc=>(hoth c (by omega) (by have:=hb3.size; omega)).trans (hb3.block c hc)⟩
theorem zgp (x:Int):wfI (wrap64 x):=by
 have h:-9223372036854775808<=wrap64 x/\wrap64 x<=9223372036854775807:=by
  unfold wrap64;omega
 simp[wfI,Lit.wf,IntKind.min,IntKind.max,IntKind.signed,IntKind.bits];exact h
end Go.Proofs.YtedpiamfpbdhoaaGreatDoor
