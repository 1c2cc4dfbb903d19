import Derived.Test.YtedpiamfpbdhoaaGreatDoorJFg21
import Derived.Shelf.SlSortCmp.NoneTotal
set_option maxHeartbeats 40000000
set_option maxRecDepth 100000
namespace Go.Proofs.YtedpiamfpbdhoaaGreatDoor
open Go.RowKit
def xL (m:Mo) (l:List Im) (vv:ByteArray) (t:Ty):Sol:=zo (qD m l m.types.length vv []) 10 t
theorem zfg {m:Mo} {l:List Im} (hz:∀i∈l,zH i.face) (vv:ByteArray) (t:Ty):(xL m l vv t).1.size<=maxLen:=kO (fun o n=>Y5 hz _ _ _ o n) 10 t
theorem zfh (S:Nat->Prop) (m:Mo) (l:List Im) (vv:ByteArray) (t:Ty) (u1 t1 f1 la:Option Addr) (u2 u3 t2 t3 f2 f3 ln lc:Nat) (u:Value) (mB lB fB:Nat) (W:World) (hS:∀b,S b->b<W.heap.size) (hm:qT S W m (.agg #[.slice u1 u2 u3,.slice t1 t2 t3,.slice f1 f2 f3])) (hl:ze S (yd S W) 4 l (.slice la ln lc)) (hz:∀i∈l,zH i.face) (hty:∀f∈m.types,zl f.is 1=0) (hn:m.types.length<=reachBytes)
  (ht:zl t 1=0) (hu:vi S W t u) (c0:W.cell? ⟨mB,0,none⟩=some (.slice u1 u2 u3)) (c1:W.cell? ⟨mB,1,none⟩=some (.slice t1 t2 t3)) (c2:W.cell? ⟨mB,2,none⟩=some (.slice f1 f2 f3)) (c3:W.cell? ⟨lB,0,none⟩=some (.slice la ln lc)) (c4:W.cell? ⟨fB,1,none⟩=some (.string vv)) :
  Calls Tryz.prog 109 #[u,.pointer (some ⟨mB,0,none⟩),.pointer (some ⟨lB,0,none⟩),.pointer (some ⟨fB,0,none⟩)] W (xS W (xL m l vv t)):=by
 obtain⟨k,fo,na,va,rfl,hcs⟩:=id hu;obtain⟨a,c,cap,rfl⟩:∃a c cap,va=.slice a c cap:=by
  obtain⟨_,_,_,_,hs⟩:=hcs;exact ze.slice hs
 have hb:Below W.heap.size W (W.alloc (.cells #[.int .i64 k,.string fo,.string na,.slice a c cap] 67)):=(Below.refl _ _).alloc (Nat.le_refl _) _;have hC:=YX S m l vv t _ _ _ _ (fun b hb'=>Nat.lt_of_lt_of_le (hS b hb') hb.size) (hm.keep (Keeps.below hb hS)) (qd (Keeps.below hb hS) hl) hz hty ht (hu.keep (Keeps.below hb hS)) hn;rw[JD ht] at hC;have HC:Hid (Calls Tryz.prog 110 #[.agg #[.slice u1 u2 u3,.slice t1 t2 t3,.slice f1 f2 f3],.slice la ln lc,.string vv,.agg #[.int .i64 k,.string fo,.string na,.slice a c cap]] (W.alloc (.cells #[.int .i64 k,.string fo,.string na,.slice a c cap] 67)) (xS (W.alloc (.cells #[.int .i64 k,.string fo,.string na,.slice a c cap] 67)) (xL m l vv t))):=hC;have HB:=zd hb;have n0:=World.block_lt_of_cell? _ _ c0;have n3:=World.block_lt_of_cell? _ _ c3;have n4:=World.block_lt_of_cell? _ _ c4;clear hC hb hcs hu hm hl hz hty hn ht hS;generalize xL m l vv t=r at *;go_enter Tryz.func109,Tryz.ntmps109;go_wp2_with fail;refine HC.out.mono ?_;rintro e w3 ⟨rfl,hb3⟩;have HB3:=zd (HB.out.trans (hb3.mono HB.out.size));clear hb3;go_wp2_with fail;go_ret2;exact⟨rfl,HB3.out⟩
def yN (ρ:Ty->Sol) (f:Fu):Int:=if vV ρ f.params≠0 then vV ρ f.params else (ρ f.result).2
def kT (ρ:Ty->Sol) (f:Fu):Sg:=if yN ρ f=0 then ⟨f.name,qF ρ f.params,(ρ f.result).1⟩ else ⟨zr,[],zr⟩
theorem zdU (S:Nat->Prop) (w:World):qB S w ⟨zr,[],zr⟩ (.agg #[.string ⟨#[]⟩,.slice none 0 0,.string ⟨#[]⟩]):=
 ⟨_,rfl,Nat.zero_le _,Nat.zero_le _,none,0,rfl,⟨by simp,by simp⟩,Or.inl rfl⟩
def Yg (w:World) (g:Sg) (c:Int) (e:Ending) (w':World):Prop:=
 ∃a n cap,e=.returned (.tuple #[.agg #[.string g.name,.slice a n cap,.string g.result],.int .i64 c])/\qB (fun b=>w.heap.size<=b/\b<w'.heap.size) w' g (.agg #[.string g.name,.slice a n cap,.string g.result])/\Below w.heap.size w w'
theorem zhF (S:Nat->Prop) (ρ:Ty->Sol) (f:Fu) (vp1 p1 ve1:Option Addr) (vp2 vp3 p2 p3 ve2 ve3:Nat) (kd ke ne:Int) (fo na fe se:ByteArray) (mB lB fB:Nat) (w:World) (hS:∀b,S b->b<w.heap.size) (hps:ze S (qO S w) 5 f.params (.slice vp1 vp2 vp3)) (hcs:xJ S w f.result kd fo na (.slice p1 p2 p3)) (h8:f.params.length<=8) (hty:∀p∈f.params,zl p.is 1=0) (htr:zl f.result 1=0) (hnm:f.name.size<=8) (hρ:∀t,(ρ t).1.size<=maxLen)
  (HF:∀W t u,Below w.heap.size w W->zl t 1=0->vi S W t u->Calls Tryz.prog 109 #[u,.pointer (some ⟨mB,0,none⟩),.pointer (some ⟨lB,0,none⟩),.pointer (some ⟨fB,0,none⟩)] W (xS W (ρ t))) :
  Calls Tryz.prog 108 #[.agg #[.string f.name,.string f.var,.slice vp1 vp2 vp3,.int .i64 kd,.string fo,.string na,.slice p1 p2 p3,.int .i64 ke,.int .i64 ne,.string fe,.string se,.slice ve1 ve2 ve3],.func (.func 109) #[] #[.pointer (some ⟨mB,0,none⟩),.pointer (some ⟨lB,0,none⟩),.pointer (some ⟨fB,0,none⟩)]] w (Yg w (kT ρ f) (yN ρ f)):=by
 obtain⟨w2,hwe,hs2,hbel,x0,x3,x4,x5,x6,y0,y1,y2,z0,z1,z2⟩:∃w2,(w.alloc (.cells #[.string f.name,.string f.var,.slice vp1 vp2 vp3,.int .i64 kd,.string fo,.string na,.slice p1 p2 p3,.int .i64 ke,.int .i64 ne,.string fe,.string se,.slice ve1 ve2 ve3] 72)).alloc (.cells #[.string ⟨#[]⟩,.slice none 0 0,.string ⟨#[]⟩] 76)=w2/\w2.heap.size=w.heap.size+2/\Below w.heap.size w w2/\
   w2.cell? ⟨w.heap.size,0,none⟩=some (.string f.name)/\w2.cell? ⟨w.heap.size,3,none⟩=some (.int .i64 kd)/\w2.cell? ⟨w.heap.size,4,none⟩=some (.string fo)/\w2.cell? ⟨w.heap.size,5,none⟩=some (.string na)/\w2.cell? ⟨w.heap.size,6,none⟩=some (.slice p1 p2 p3)/\
   w2.cell? ⟨w.heap.size+1,0,none⟩=some (.string ⟨#[]⟩)/\w2.cell? ⟨w.heap.size+1,1,none⟩=some (.slice none 0 0)/\w2.cell? ⟨w.heap.size+1,2,none⟩=some (.string ⟨#[]⟩)/\
   w2.frozen? ⟨w.heap.size+1,0,none⟩=false/\w2.frozen? ⟨w.heap.size+1,1,none⟩=false/\w2.frozen? ⟨w.heap.size+1,2,none⟩=false:=
  ⟨_,rfl,by simp,((Below.refl _ _).alloc (Nat.le_refl _) _).alloc (by simp) _,by simp[go_sem],by simp[go_sem],by simp[go_sem],by simp[go_sem],by simp[go_sem],by simp[go_sem],by simp[go_sem],by simp[go_sem],by simp[go_sem],by simp[go_sem],by simp[go_sem]⟩
 have HBox:Hid (∀W,Below w2.heap.size w2 W->((W.cell? ⟨w.heap.size,0,none⟩=some (.string f.name)/\W.cell? ⟨w.heap.size,3,none⟩=some (.int .i64 kd)/\W.cell? ⟨w.heap.size,4,none⟩=some (.string fo)/\W.cell? ⟨w.heap.size,5,none⟩=some (.string na)/\W.cell? ⟨w.heap.size,6,none⟩=some (.slice p1 p2 p3))/\
   (W.cell? ⟨w.heap.size+1,0,none⟩=some (.string ⟨#[]⟩)/\W.cell? ⟨w.heap.size+1,1,none⟩=some (.slice none 0 0)/\W.cell? ⟨w.heap.size+1,2,none⟩=some (.string ⟨#[]⟩))/\(W.frozen? ⟨w.heap.size+1,0,none⟩=false/\W.frozen? ⟨w.heap.size+1,1,none⟩=false/\W.frozen? ⟨w.heap.size+1,2,none⟩=false))/\Below w.heap.size w W):=fun W hW=>by
  have l0:w.heap.size<w2.heap.size:=by omega
  have l1:w.heap.size+1<w2.heap.size:=by omega
  exact⟨⟨⟨(hW.cell (p:=⟨w.heap.size,0,none⟩) l0).trans x0,(hW.cell (p:=⟨w.heap.size,3,none⟩) l0).trans x3,(hW.cell (p:=⟨w.heap.size,4,none⟩) l0).trans x4,(hW.cell (p:=⟨w.heap.size,5,none⟩) l0).trans x5,(hW.cell (p:=⟨w.heap.size,6,none⟩) l0).trans x6⟩,
   ⟨(hW.cell (p:=⟨w.heap.size+1,0,none⟩) l1).trans y0,(hW.cell (p:=⟨w.heap.size+1,1,none⟩) l1).trans y1,(hW.cell (p:=⟨w.heap.size+1,2,none⟩) l1).trans y2⟩,(hW.frozen (p:=⟨w.heap.size+1,0,none⟩) l1).trans z0,(hW.frozen (p:=⟨w.heap.size+1,1,none⟩) l1).trans z1,(hW.frozen (p:=⟨w.heap.size+1,2,none⟩) l1).trans z2⟩,hbel.trans (hW.mono hbel.size)⟩
 have HSet:Hid (∀W v0 v1 v2,Below w.heap.size w W->Below w.heap.size w (((W.setCell ⟨w.heap.size+1,0,none⟩ v0).setCell ⟨w.heap.size+1,1,none⟩ v1).setCell ⟨w.heap.size+1,2,none⟩ v2)):=fun W v0 v1 v2 h=>
  ((h.setCell (by show w.heap.size<=w.heap.size+1; omega) _).setCell (by show w.heap.size<=w.heap.size+1; omega) _).setCell (by show w.heap.size<=w.heap.size+1; omega) _
 have HTk:Hid (Calls Tryz.prog 178 #[.slice vp1 vp2 vp3,.func (.func 109) #[] #[.pointer (some ⟨mB,0,none⟩),.pointer (some ⟨lB,0,none⟩),.pointer (some ⟨fB,0,none⟩)]] w2 (zdT w2 ρ f.params)):=
  zff S ρ f.params _ mB lB fB w2 (fun b hb=>Nat.lt_of_lt_of_le (hS b hb) hbel.size) (zP (Keeps.below hbel hS) hps) h8 hty hρ (fun W t u hW=>HF W t u (hbel.trans (hW.mono hbel.size)))
 have HSol:Hid (∀W,Below w.heap.size w W->Calls Tryz.prog 109 #[.agg #[.int .i64 kd,.string fo,.string na,.slice p1 p2 p3],.pointer (some ⟨mB,0,none⟩),.pointer (some ⟨lB,0,none⟩),.pointer (some ⟨fB,0,none⟩)] W (xS W (ρ f.result))):=fun W hW=>
  HF W _ _ hW htr ⟨_,_,_,_,rfl,hcs.keep (Keeps.below hW hS)⟩
 have HWe:=zd hwe;have HCode:Hid (yN ρ f=if vV ρ f.params≠0 then vV ρ f.params else (ρ f.result).2):=rfl;have HGood:Hid (yN ρ f=0->kT ρ f=⟨f.name,qF ρ f.params,(ρ f.result).1⟩):=fun h=>if_pos h
 have HBad:Hid (yN ρ f≠0->kT ρ f=⟨zr,[],zr⟩):=fun h=>if_neg h
 have HRs:=zd (hρ f.result);have HNm:=zd (qM f.name);have hnm':f.name.size<=maxLen:=by unfold maxLen; omega
 have hnm2:f.name.size<=281474976710656:=by omega
 clear hwe hbel hps hcs hty htr hρ HF x0 x3 x4 x5 x6 y0 y1 y2 z0 z1 z2 hS;unfold zdT at HTk;generalize kT ρ f=g at *;generalize yN ρ f=sc at *;generalize qF ρ f.params=ks at *;generalize vV ρ f.params=pe at *;generalize ρ f.result=r at *;generalize f.name=nm at *;generalize f.var=vr at *;obtain⟨rs,rc⟩:=r;go_enter Tryz.func108,Tryz.ntmps108;go_wp2_with fail;rw[HWe.out];refine HTk.out.mono ?_;rintro e w3 ⟨xa,xn,xc,rfl,hks,hb3⟩;obtain⟨⟨⟨a0,a3,a4,a5,a6⟩,⟨b0,b1,b2⟩,c0,c1,c2⟩,hbw3⟩:=HBox.out _ hb3;have HB3:=zd hb3;have HBw3:=zd hbw3;have HKs:=zd hks;clear hb3 hbw3 hks HTk
 by_cases hp:pe=0
 ·subst hp
  go_wp2_with fail;refine (HSol.out _ HBw3.out).mono ?_;rintro e w4 ⟨rfl,hb4⟩;have hb34:=hb4;obtain⟨⟨⟨d0,_⟩,⟨e0,e1,e2⟩,f0,f1,f2⟩,hbw4⟩:=HBox.out _ (HB3.out.trans (hb4.mono HB3.out.size));have HB4:=zd (HB3.out.trans (hb4.mono HB3.out.size));have HBw4:=zd hbw4;have HB34:=zd hb4;clear hb4 hbw4 a0 a3 a4 a5 a6 b0 b1 b2 c0 c1 c2 hb34
  by_cases hc:rc=0
  ·subst hc
   have hsc:sc=0:=by rw[HCode.out,if_neg (by simp)]
   subst hsc;have HG:=zd (HGood.out rfl);clear HGood HBad HCode;go_wp2_with fail;refine (HNm.out _ hnm2).mono ?_;rintro e w5 ⟨rfl,hb5⟩;obtain⟨⟨_,⟨g0,g1,g2⟩,h0,h1,h2⟩,hbw5⟩:=HBox.out _ (HB4.out.trans (hb5.mono HB4.out.size));have HFin:Hid (∀W',(∀b,w2.heap.size<=b->b<w5.heap.size->W'.heap[b]? = w5.heap[b]?)->w5.heap.size<=W'.heap.size->qB (fun b=>w.heap.size<=b/\b<W'.heap.size) W' ⟨nm,ks,rs⟩ (.agg #[.string nm,.slice xa xn xc,.string rs])):=fun W' hk hsz=>
    ⟨_,rfl,hnm',HRs.out,zU (S:=fun b=>w2.heap.size<=b/\b<w3.heap.size) (S':=fun b=>w.heap.size<=b/\b<W'.heap.size) ⟨fun b hb=>by
     have hb35:=HB34.out.trans (hb5.mono HB34.out.size);rw[hk b hb.1 (Nat.lt_of_lt_of_le hb.2 hb35.size)];exact hb35.block b hb.2,fun b hb=>by
     have hb35:=HB34.out.trans (hb5.mono HB34.out.size);have:=hb35.size;omega⟩ (HKs.out trivial)⟩
   have HBw5:=zd hbw5;have hs5:w.heap.size+2<=w5.heap.size:=by have:=(HB4.out.trans (hb5.mono HB4.out.size)).size; omega
   clear hb5 hbw5 e0 e1 e2 f0 f1 f2 d0;go_wp2_with fail;refine bodyPost_ret (v:=.tuple #[.agg #[.string nm,.slice xa xn xc,.string rs],.int .i64 0]) (by simp[results,Tryz.results108,go_sem,g0,g1,g2]) rfl ?_;refine⟨xa,xn,xc,by rw[HG.out],?_,HSet.out _ _ _ _ HBw5.out⟩;rw[HG.out];exact HFin.out _ (fun b hb _=>by
    rw[Below.heap_setCell _ _ _ _ (by show b≠w.heap.size+1; omega),Below.heap_setCell _ _ _ _ (by show b≠w.heap.size+1; omega),Below.heap_setCell _ _ _ _ (by show b≠w.heap.size+1; omega)]) (by simp)
  ·have hc':(rc != 0)=true:=by simp[hc]
   have hsc:sc=rc:=by rw[HCode.out,if_neg (by simp)]
   subst hsc;have HG:=zd (HBad.out hc);clear HGood HBad HCode hc HNm;go_wp2_with fail;refine bodyPost_ret (v:=.tuple #[.agg #[.string ⟨#[]⟩,.slice none 0 0,.string ⟨#[]⟩],.int .i64 sc]) (by simp[results,Tryz.results108,go_sem,e0,e1,e2]) rfl ?_;refine⟨none,0,0,by rw[HG.out]; rfl,?_,HSet.out _ _ _ _ HBw4.out⟩;rw[HG.out];exact zdU _ _
 ·have hp':(pe != 0)=true:=by simp[hp]
  have hsc:sc=pe:=by rw[HCode.out,if_pos hp]
  subst hsc;have HG:=zd (HBad.out hp);clear HGood HBad HCode hp HNm HSol HKs;go_wp2_with fail;refine bodyPost_ret (v:=.tuple #[.agg #[.string ⟨#[]⟩,.slice none 0 0,.string ⟨#[]⟩],.int .i64 sc]) (by simp[results,Tryz.results108,go_sem,b0,b1,b2]) rfl ?_;refine⟨none,0,0,by rw[HG.out]; rfl,?_,HSet.out _ _ _ _ HBw3.out⟩;rw[HG.out];exact zdU _ _
def j9 (m:Mo) (k:Nat):ByteArray:=((m.funcs[k]?).map Fu.name).getD zr
def qg (m:Mo) (l:List Im) (k:Nat):Int:=match m.funcs[k]? with
 |some f=>if jJ (m.funcs.take k) f.name=true then 4 else yN (xL m l f.var) f
 |none=>6
def vh (m:Mo) (l:List Im) (k:Nat):Sg:=match m.funcs[k]? with
 |some f=>if jJ (m.funcs.take k) f.name=true then ⟨zr,[],zr⟩ else kT (xL m l f.var) f
 |none=>⟨zr,[],zr⟩
theorem Y6 {m:Mo} {k:Nat} (h:k<m.funcs.length):j9 m k=m.funcs[k].name:=by
 unfold j9;rw[List.getElem?_eq_getElem h]; rfl
theorem kz {m:Mo} {l:List Im} {k:Nat} (h:k<m.funcs.length):qg m l k=(if jJ (m.funcs.take k) m.funcs[k].name=true then 4 else yN (xL m l m.funcs[k].var) m.funcs[k])/\vh m l k=(if jJ (m.funcs.take k) m.funcs[k].name=true then ⟨zr,[],zr⟩ else kT (xL m l m.funcs[k].var) m.funcs[k]):=by
 unfold qg vh;rw[List.getElem?_eq_getElem h];exact⟨rfl,rfl⟩
def JJ (f:Fu):Prop:=zf f.name=true/\f.params.length<=8/\(∀p∈f.params,zf p.name=true/\zl p.is 1=0)/\zl f.result 1=0
theorem zgH {f:Fu} (h:xw f=0):JJ f:=by
 unfold xw at h
 by_cases h1:zf f.name=false\/zD f.var=false
 ·rw[if_pos h1] at h; exact absurd h (by decide)
 ·rw[if_neg h1] at h
  by_cases h2:8<f.params.length
  ·rw[if_pos h2] at h; exact absurd h (by decide)
  ·rw[if_neg h2] at h
   by_cases h3:zt zF f.params≠0
   ·rw[if_pos h3] at h; exact absurd h h3
   ·rw[if_neg h3] at h
    by_cases h4:zl f.result 1≠0
    ·rw[if_pos h4] at h; exact absurd h h4
    ·refine⟨?_,by omega,fun p hp=>?_,by simpa using h4⟩
     ·cases hi:zf f.name with
      |true=>rfl
      |false=>exact absurd (Or.inl hi) h1
     ·obtain⟨k,hk,rfl⟩:=List.getElem_of_mem hp
      have:=qN zF f.params (by simpa using h3) k hk;unfold zF at this
      by_cases hi:zf (f.params[k]).name=true
      ·rw[if_pos hi] at this; exact⟨hi,this⟩
      ·rw[if_neg hi] at this; exact absurd this (by decide)
theorem kb {m:Mo} (h:zI m=0):∀f∈m.funcs,JJ f:=by
 unfold zI at h
 by_cases hc:24<wrap64 (wrap64 ((m.uses.length:Int)+m.types.length)+m.funcs.length)
 ·rw[if_pos hc] at h; exact absurd h (by decide)
 ·rw[if_neg hc] at h
  by_cases hu:zt qx m.uses≠0
  ·rw[if_pos hu] at h; exact absurd h hu
  ·rw[if_neg hu] at h
   by_cases ht:zt zF m.types≠0
   ·rw[if_pos ht] at h; exact absurd h ht
   ·rw[if_neg ht] at h
    intro f hf;obtain⟨k,hk,rfl⟩:=List.getElem_of_mem hf;exact zgH (qN xw m.funcs h k hk)
theorem zcV (S:Nat->Prop) (m:Mo) (l:List Im) (k:Nat) (vm vl:Value) (w:World) (hS:∀b,S b->b<w.heap.size) (hm:qT S w m vm) (hl:ze S (yd S w) 4 l vl) (hz:∀i∈l,zH i.face) (hty:∀f∈m.types,zl f.is 1=0) (hn:m.types.length<=reachBytes) (hfu:∀f∈m.funcs,JJ f) (hk:k<m.funcs.length) :
  Calls Tryz.prog 56 #[vm,vl,.int .i64 (k:Nat)] w (Yg w (vh m l k) (qg m l k)):=by
 obtain⟨hoc,hos⟩:=kz (l:=l) hk;obtain⟨vu,vty,vf,rfl,hu,hts,hf⟩:=id hm;have hlen:=hf.len;unfold maxLen at hlen;obtain⟨u1,u2,u3,rfl⟩:=hu.slice;obtain⟨t1,t2,t3,rfl⟩:=hts.slice;obtain⟨f1,f3,rfl⟩:=hf.is;obtain⟨la,ln,lc,rfl⟩:=hl.slice;obtain⟨hident,h8,hps8,htr⟩:=hfu _ (List.getElem_mem hk);obtain⟨cu,cc,hrun,hcut⟩:=zh9 hf (k:=k) (by omega);obtain⟨_,b,off,rfl,hb,hat⟩:=hf.at hk;obtain⟨vp1,vp2,vp3,kd,fo,na,p1,p2,p3,ke,ne,fe,se,ve1,ve2,ve3,a0,a1,a2,a3,a4,a5,a6,a7,a8,a9,a10,a11,hsz0,hsz1,hps,hcs,hce⟩:=Q3 hat;have hbw:=hS b hb;have HDec:Hid (∀W,Below w.heap.size w W->Calls Tryz.prog 107 #[.slice cu k cc,.string m.funcs[k].name] W fun e w'=>e=.returned (.bool (jJ (m.funcs.take k) m.funcs[k].name))/\Below W.heap.size W w'):=fun W hW=>
  zby S (m.funcs.take k) _ _ W (fun b hb=>Nat.lt_of_lt_of_le (hS b hb) hW.size) (Q8 (Keeps.below hW hS) hcut)
 obtain⟨w0,hwe0,hs0,hbel0,m0,m1,m2,m3,y0,y1,y2,z0,z1,z2⟩:∃w0,((w.alloc (.cells #[.slice u1 u2 u3,.slice t1 t2 t3,.slice (some ⟨b,off,none⟩) m.funcs.length f3] 41)).alloc (.cells #[.slice la ln lc] 22)).alloc (.cells #[.string ⟨#[]⟩,.slice none 0 0,.string ⟨#[]⟩] 76)=w0/\w0.heap.size=w.heap.size+3/\Below w.heap.size w w0/\
   w0.cell? ⟨w.heap.size,0,none⟩=some (.slice u1 u2 u3)/\w0.cell? ⟨w.heap.size,1,none⟩=some (.slice t1 t2 t3)/\w0.cell? ⟨w.heap.size,2,none⟩=some (.slice (some ⟨b,off,none⟩) m.funcs.length f3)/\w0.cell? ⟨w.heap.size+1,0,none⟩=some (.slice la ln lc)/\
   w0.cell? ⟨w.heap.size+2,0,none⟩=some (.string ⟨#[]⟩)/\w0.cell? ⟨w.heap.size+2,1,none⟩=some (.slice none 0 0)/\w0.cell? ⟨w.heap.size+2,2,none⟩=some (.string ⟨#[]⟩)/\w0.frozen? ⟨w.heap.size+2,0,none⟩=false/\w0.frozen? ⟨w.heap.size+2,1,none⟩=false/\w0.frozen? ⟨w.heap.size+2,2,none⟩=false:=
  ⟨_,rfl,by simp,(((Below.refl _ _).alloc (Nat.le_refl _) _).alloc (by simp) _).alloc (by simp; omega) _,by simp[go_sem],by simp[go_sem],by simp[go_sem],by simp[go_sem],by simp[go_sem],by simp[go_sem],by simp[go_sem],by simp[go_sem],by simp[go_sem],by simp[go_sem]⟩
 obtain⟨w2,hwe,hs2,hbel2,c0,c1,c2,c3,c4,c5,c6,c7,c8,c9,c10,c11⟩:∃w2,w0.alloc (.cells #[.string m.funcs[k].name,.string m.funcs[k].var,.slice vp1 vp2 vp3,.int .i64 kd,.string fo,.string na,.slice p1 p2 p3,.int .i64 ke,.int .i64 ne,.string fe,.string se,.slice ve1 ve2 ve3] 72)=w2/\w2.heap.size=w.heap.size+4/\Below w0.heap.size w0 w2/\
   w2.cell? ⟨w.heap.size+3,0,none⟩=some (.string m.funcs[k].name)/\w2.cell? ⟨w.heap.size+3,1,none⟩=some (.string m.funcs[k].var)/\w2.cell? ⟨w.heap.size+3,2,none⟩=some (.slice vp1 vp2 vp3)/\w2.cell? ⟨w.heap.size+3,3,none⟩=some (.int .i64 kd)/\w2.cell? ⟨w.heap.size+3,4,none⟩=some (.string fo)/\w2.cell? ⟨w.heap.size+3,5,none⟩=some (.string na)/\w2.cell? ⟨w.heap.size+3,6,none⟩=some (.slice p1 p2 p3)/\
   w2.cell? ⟨w.heap.size+3,7,none⟩=some (.int .i64 ke)/\w2.cell? ⟨w.heap.size+3,8,none⟩=some (.int .i64 ne)/\w2.cell? ⟨w.heap.size+3,9,none⟩=some (.string fe)/\w2.cell? ⟨w.heap.size+3,10,none⟩=some (.string se)/\w2.cell? ⟨w.heap.size+3,11,none⟩=some (.slice ve1 ve2 ve3):=by
  rw[<- hs0];exact⟨_,rfl,by simp; omega,(Below.refl _ _).alloc (Nat.le_refl _) _,by simp[go_sem],by simp[go_sem],by simp[go_sem],by simp[go_sem],by simp[go_sem],by simp[go_sem],by simp[go_sem],by simp[go_sem],by simp[go_sem],by simp[go_sem],by simp[go_sem],by simp[go_sem]⟩
 have HBox:Hid (∀W,Below w2.heap.size w2 W->((W.cell? ⟨w.heap.size,0,none⟩=some (.slice u1 u2 u3)/\W.cell? ⟨w.heap.size,1,none⟩=some (.slice t1 t2 t3)/\W.cell? ⟨w.heap.size,2,none⟩=some (.slice (some ⟨b,off,none⟩) m.funcs.length f3)/\W.cell? ⟨w.heap.size+1,0,none⟩=some (.slice la ln lc))/\
   (W.cell? ⟨w.heap.size+2,0,none⟩=some (.string ⟨#[]⟩)/\W.cell? ⟨w.heap.size+2,1,none⟩=some (.slice none 0 0)/\W.cell? ⟨w.heap.size+2,2,none⟩=some (.string ⟨#[]⟩))/\(W.frozen? ⟨w.heap.size+2,0,none⟩=false/\W.frozen? ⟨w.heap.size+2,1,none⟩=false/\W.frozen? ⟨w.heap.size+2,2,none⟩=false))/\Below w.heap.size w W/\
   (W.cell? ⟨w.heap.size+3,0,none⟩=some (.string m.funcs[k].name)/\W.cell? ⟨w.heap.size+3,1,none⟩=some (.string m.funcs[k].var)/\W.cell? ⟨w.heap.size+3,2,none⟩=some (.slice vp1 vp2 vp3)/\W.cell? ⟨w.heap.size+3,3,none⟩=some (.int .i64 kd)/\W.cell? ⟨w.heap.size+3,4,none⟩=some (.string fo)/\W.cell? ⟨w.heap.size+3,5,none⟩=some (.string na)/\W.cell? ⟨w.heap.size+3,6,none⟩=some (.slice p1 p2 p3)/\
   W.cell? ⟨w.heap.size+3,7,none⟩=some (.int .i64 ke)/\W.cell? ⟨w.heap.size+3,8,none⟩=some (.int .i64 ne)/\W.cell? ⟨w.heap.size+3,9,none⟩=some (.string fe)/\W.cell? ⟨w.heap.size+3,10,none⟩=some (.string se)/\W.cell? ⟨w.heap.size+3,11,none⟩=some (.slice ve1 ve2 ve3))):=fun W hW=>by
  have hW0:=hbel2.trans (hW.mono hbel2.size);have l0:w.heap.size<w0.heap.size:=by omega
  have l1:w.heap.size+1<w0.heap.size:=by omega
  have l2:w.heap.size+2<w0.heap.size:=by omega
  have l3:w.heap.size+3<w2.heap.size:=by omega
  exact⟨⟨⟨(hW0.cell (p:=⟨w.heap.size,0,none⟩) l0).trans m0,(hW0.cell (p:=⟨w.heap.size,1,none⟩) l0).trans m1,(hW0.cell (p:=⟨w.heap.size,2,none⟩) l0).trans m2,(hW0.cell (p:=⟨w.heap.size+1,0,none⟩) l1).trans m3⟩,
   ⟨(hW0.cell (p:=⟨w.heap.size+2,0,none⟩) l2).trans y0,(hW0.cell (p:=⟨w.heap.size+2,1,none⟩) l2).trans y1,(hW0.cell (p:=⟨w.heap.size+2,2,none⟩) l2).trans y2⟩,(hW0.frozen (p:=⟨w.heap.size+2,0,none⟩) l2).trans z0,(hW0.frozen (p:=⟨w.heap.size+2,1,none⟩) l2).trans z1,(hW0.frozen (p:=⟨w.heap.size+2,2,none⟩) l2).trans z2⟩,hbel0.trans (hW0.mono hbel0.size),
   (hW.cell (p:=⟨w.heap.size+3,0,none⟩) l3).trans c0,(hW.cell (p:=⟨w.heap.size+3,1,none⟩) l3).trans c1,(hW.cell (p:=⟨w.heap.size+3,2,none⟩) l3).trans c2,(hW.cell (p:=⟨w.heap.size+3,3,none⟩) l3).trans c3,(hW.cell (p:=⟨w.heap.size+3,4,none⟩) l3).trans c4,(hW.cell (p:=⟨w.heap.size+3,5,none⟩) l3).trans c5,(hW.cell (p:=⟨w.heap.size+3,6,none⟩) l3).trans c6,(hW.cell (p:=⟨w.heap.size+3,7,none⟩) l3).trans c7,(hW.cell (p:=⟨w.heap.size+3,8,none⟩) l3).trans c8,(hW.cell (p:=⟨w.heap.size+3,9,none⟩) l3).trans c9,(hW.cell (p:=⟨w.heap.size+3,10,none⟩) l3).trans c10,(hW.cell (p:=⟨w.heap.size+3,11,none⟩) l3).trans c11⟩
 have HSet:Hid (∀W v0 v1 v2,Below w.heap.size w W->Below w.heap.size w (((W.setCell ⟨w.heap.size+2,0,none⟩ v0).setCell ⟨w.heap.size+2,1,none⟩ v1).setCell ⟨w.heap.size+2,2,none⟩ v2)):=fun W v0 v1 v2 h=>
  ((h.setCell (by show w.heap.size<=w.heap.size+2; omega) _).setCell (by show w.heap.size<=w.heap.size+2; omega) _).setCell (by show w.heap.size<=w.heap.size+2; omega) _
 have HSig:Hid (∀W,Below w2.heap.size w2 W->Calls Tryz.prog 108 #[.agg #[.string m.funcs[k].name,.string m.funcs[k].var,.slice vp1 vp2 vp3,.int .i64 kd,.string fo,.string na,.slice p1 p2 p3,.int .i64 ke,.int .i64 ne,.string fe,.string se,.slice ve1 ve2 ve3],.func (.func 109) #[] #[.pointer (some ⟨w.heap.size,0,none⟩),.pointer (some ⟨w.heap.size+1,0,none⟩),.pointer (some ⟨w.heap.size+3,0,none⟩)]] W (Yg W (kT (xL m l m.funcs[k].var) m.funcs[k]) (yN (xL m l m.funcs[k].var) m.funcs[k]))):=fun W hW=>by
  obtain⟨_,hWw,_⟩:=HBox.out W hW;have hSW:∀b,S b->b<W.heap.size:=fun b hb=>Nat.lt_of_lt_of_le (hS b hb) hWw.size
  refine zhF S (xL m l m.funcs[k].var) m.funcs[k] vp1 p1 ve1 vp2 vp3 p2 p3 ve2 ve3 kd ke ne fo na fe se w.heap.size (w.heap.size+1) (w.heap.size+3) W hSW (zP (Keeps.below hWw hS) hps) (hcs.keep (Keeps.below hWw hS)) h8 (fun p hp=>(hps8 p hp).2) htr (xi hident) (fun t=>zfg hz _ t) (fun W' t u hW' ht hu'=>?_);have h2:=hW.trans (hW'.mono hW.size);obtain⟨⟨⟨q0,q1,q2,q3⟩,_,_⟩,hWw',⟨_,q4,_⟩⟩:=HBox.out W' h2;exact zfh S m l m.funcs[k].var t u1 t1 (some ⟨b,off,none⟩) la u2 u3 t2 t3 m.funcs.length f3 ln lc u w.heap.size (w.heap.size+1) (w.heap.size+3) W' (fun b hb=>Nat.lt_of_lt_of_le (hSW b hb) hW'.size) (hm.keep (Keeps.below hWw' hS)) (qd (Keeps.below hWw' hS) hl) hz hty hn ht hu' q0 q1 q2 q3 q4
 have HW0:=zd hwe0;have HW2:=zd hwe;have HB2:=zd hbel2;have HB0:=zd hbel0;have d0:=(hbel0.cell (p:=⟨b,off+k * 12,none⟩) hbw).trans a0;have d1:=(hbel0.cell (p:=⟨b,off+k * 12+1,none⟩) hbw).trans a1;have d2:=(hbel0.cell (p:=⟨b,off+k * 12+2,none⟩) hbw).trans a2;have d3:=(hbel0.cell (p:=⟨b,off+k * 12+3,none⟩) hbw).trans a3;have d4:=(hbel0.cell (p:=⟨b,off+k * 12+4,none⟩) hbw).trans a4;have d5:=(hbel0.cell (p:=⟨b,off+k * 12+5,none⟩) hbw).trans a5;have d6:=(hbel0.cell (p:=⟨b,off+k * 12+6,none⟩) hbw).trans a6;have d7:=(hbel0.cell (p:=⟨b,off+k * 12+7,none⟩) hbw).trans a7;have d8:=(hbel0.cell (p:=⟨b,off+k * 12+8,none⟩) hbw).trans a8;have d9:=(hbel0.cell (p:=⟨b,off+k * 12+9,none⟩) hbw).trans a9;have d10:=(hbel0.cell (p:=⟨b,off+k * 12+10,none⟩) hbw).trans a10;have d11:=(hbel0.cell (p:=⟨b,off+k * 12+11,none⟩) hbw).trans a11;have HOc:=zd hoc;have HOs:=zd hos;clear hm hl hz hty hn hfu hu hts hf hcut hat hsz0 hsz1 hps hcs hce hwe0 hwe hbel0 hbel2 a0 a1 a2 a3 a4 a5 a6 a7 a8 a9 a10 a11 c0 c1 c2 c3 c4 c5 c6 c7 c8 c9 c10 c11 y0 y1 y2 z0 z1 z2 hoc hos hident h8 hps8 htr;unfold Yg at HSig;generalize vh m l k=og at *;generalize qg m l k=oc at *;generalize kT (xL m l m.funcs[k].var) m.funcs[k]=sg at *;generalize yN (xL m l m.funcs[k].var) m.funcs[k]=sc at *;generalize m.funcs[k].name=nm at *;generalize m.funcs[k].var=vr at *;generalize jJ (m.funcs.take k) nm=tk at *;have hk1:¬(k:Int)<0:=by omega
 have hk2:¬(m.funcs.length:Int)<=(k:Int):=by omega
 have hk3:(k:Int)<(m.funcs.length:Int):=by omega
 have hk4:(0:Int)<=(k:Int):=by omega
 go_enter Tryz.func56,Tryz.ntmps56;go_wp2_with (rw[HW0.out]; clear HW0);rw[HW2.out];clear HW2;obtain⟨⟨⟨q0,q1,q2,q3⟩,_,_⟩,hb2w,⟨r0,r1,r2,r3,r4,r5,r6,r7,r8,r9,r10,r11⟩⟩:=HBox.out w2 (Below.refl _ _);have HB2w:=zd hb2w;have HBd:=zd hb2w.drew;clear hb2w d0 d1 d2 d3 d4 d5 d6 d7 d8 d9 d10 d11 m0 m1 m2 m3
 go_region_with (go_at_call 107; refine (HDec.out _ HBd.out).mono ?_; rintro e w3 ⟨rfl,hb3⟩)
 all_goals
  have hb23:Below w2.heap.size w2 w3:=(Below.refl _ _).drew.trans (hb3.mono (Nat.le_refl _));obtain⟨⟨⟨c0,c1,c2,c3⟩,⟨g0,g1,g2⟩,h0,h1,h2⟩,hbw3,⟨e0,e1,e2,e3,e4,e5,e6,e7,e8,e9,e10,e11⟩⟩:=HBox.out w3 hb23;have HB23:=zd hb23;have HBw3:=zd hbw3;clear hb3 hb23 hbw3 q0 q1 q2 q3 r0 r1 r2 r3 r4 r5 r6 r7 r8 r9 r10 r11 hrun
  cases tk with
  |true=>
   have HC:Hid (oc=4):=by show _=_; rw[HOc.out,if_pos rfl]
   have HG:Hid (og=⟨zr,[],zr⟩):=by show _=_; rw[HOs.out,if_pos rfl]
   clear HOc HOs HSig;go_wp2_with fail;refine bodyPost_ret (v:=.tuple #[.agg #[.string ⟨#[]⟩,.slice none 0 0,.string ⟨#[]⟩],.int .i64 4]) (by simp[results,Tryz.results56,go_sem,g0,g1,g2]) rfl ?_;refine⟨none,0,0,by rw[HC.out,HG.out]; rfl,?_,HSet.out _ _ _ _ HBw3.out⟩;rw[HG.out];exact zdU _ _
  |false=>
   have HC:Hid (oc=sc):=by show _=_; rw[HOc.out,if_neg (by decide)]
   have HG:Hid (og=sg):=by show _=_; rw[HOs.out,if_neg (by decide)]
   clear HOc HOs;go_wp2_with fail;refine (HSig.out w3 HB23.out).mono ?_;rintro e w5 ⟨xa,xn,xc,rfl,hsg,hb5⟩;have hb25:=HB23.out.trans (hb5.mono HB23.out.size);obtain⟨⟨_,⟨k0,k1,k2⟩,l0,l1,l2⟩,hbw5,_⟩:=HBox.out w5 hb25;have HFin:Hid (∀W',(∀b,w2.heap.size<=b->b<w5.heap.size->W'.heap[b]? = w5.heap[b]?)->w5.heap.size<=W'.heap.size->qB (fun b=>w.heap.size<=b/\b<W'.heap.size) W' sg (.agg #[.string sg.name,.slice xa xn xc,.string sg.result])):=fun W' hk' hsz=>
    hsg.keep ⟨fun b hb=>hk' b (Nat.le_trans HB23.out.size hb.1) hb.2,fun b hb=>by have:=HB23.out.size; omega⟩
   have HBw5:=zd hbw5;clear hsg hb5 hb25 hbw5 c0 c1 c2 c3 g0 g1 g2 h0 h1 h2 e0 e1 e2 e3 e4 e5 e6 e7 e8 e9 e10 e11 HSig;generalize hsn:sg.name=sn at *;generalize hsr:sg.result=sr at *;have HSn:=zd hsn;have HSr:=zd hsr;clear hsn hsr;go_wp2_with fail;refine bodyPost_ret (v:=.tuple #[.agg #[.string sn,.slice xa xn xc,.string sr],.int .i64 sc]) (by simp[results,Tryz.results56,go_sem,k0,k1,k2]) rfl ?_;refine⟨xa,xn,xc,by rw[HC.out,HG.out,HSn.out,HSr.out],?_,HSet.out _ _ _ _ HBw5.out⟩;rw[HG.out,HSn.out,HSr.out];exact HFin.out _ (fun b hb _=>by
    rw[Below.heap_setCell _ _ _ _ (by show b≠w.heap.size+2; omega),Below.heap_setCell _ _ _ _ (by show b≠w.heap.size+2; omega),Below.heap_setCell _ _ _ _ (by show b≠w.heap.size+2; omega)]) (by simp)
theorem Km {α:Type} {p:α->Bool}:∀{l:List α} {k:Nat} (h:k<l.length),p l[k]=true->zj p l<=k
 |x::r,0,_,h=>by
  rw[zj,if_pos (by simpa using h)]; exact Nat.le_refl _
 |x::r,k+1,hk,h=>by
  rw[zj]
  split
  ·exact Nat.zero_le _
  ·have:=Km (l:=r) (k:=k) (by simpa using hk) (by simpa using h)
   omega
def xF (m:Mo) (k:Nat):ByteArray:=((m.types[k]?).map Fd.name).getD zr
def qw (m:Mo) (l:List Im) (k:Nat):Sol:=if zq m (xF m k)<k then (zr,4) else qD m l m.types.length zr [] zr (xF m k)
def Q4 (m:Mo) (l:List Im) (k:Nat):List Kn:=if (qw m l k).2=0 then [⟨xF m k,(qw m l k).1⟩] else []
def Vs (m:Mo) (l:List Im) (k:Nat):List Dg:=if (qw m l k).2=0 then [] else [⟨xF m k,(qw m l k).2⟩]
def qG (m:Mo) (l:List Im):Nat->List Kn
 |0=>[]
 |k+1=>qG m l k++Q4 m l k
def qp (m:Mo) (l:List Im):Nat->List Dg
 |0=>[]
 |k+1=>qp m l k++Vs m l k
def xT (m:Mo) (l:List Im):Nat->List Kn
 |0=>[]
 |k+1=>if (qw m l k).2=0 then Q1 Kn.name ⟨xF m k,(qw m l k).1⟩ (xT m l k) else xT m l k
theorem kg {m:Mo} {k:Nat} (h:k<m.types.length):xF m k=m.types[k].name:=by
 unfold xF;rw[List.getElem?_eq_getElem h]; rfl
theorem zbA {m:Mo} {k:Nat} (h:k<m.types.length):zq m (xF m k)<=k:=by
 rw[kg h];exact Km h (kY _)
theorem zdV {m:Mo} {l:List Im} {k:Nat} (h:k<m.types.length) (hty:∀f∈m.types,zl f.is 1=0):qw m l k=if zq m m.types[k].name<k then (zr,4) else zo (Q0 zr (qt m l m.types.length [])) 10 m.types[k].is:=by
 unfold qw;have hle:=zbA h;rw[kg h] at hle ⊢
 by_cases hlt:zq m m.types[k].name<k
 ·rw[if_pos hlt,if_pos hlt]
 ·rw[if_neg hlt,if_neg hlt]
  have he:zq m m.types[k].name=k:=by omega
  have ha:zq m m.types[k].name<m.types.length:=by omega
  rw[JD (hty _ (List.getElem_mem h)),<- zdO ha]
  congr 2
  exact getElem_congr_idx he
theorem zbB {m:Mo} {l:List Im} {k:Nat} {x:Kn} (hx:x∈Q4 m l k):x.name=xF m k/\¬zq m (xF m k)<k:=by
 unfold Q4 at hx
 by_cases h:(qw m l k).2=0
 ·rw[if_pos h,List.mem_singleton] at hx
  subst hx;refine⟨rfl,fun hlt=>?_⟩;unfold qw at h;rw[if_pos hlt] at h;exact absurd h (by decide)
 ·rw[if_neg h] at hx; cases hx
theorem K4 {m:Mo} {l:List Im}:∀{k:Nat},k<=m.types.length->∀x∈qG m l k,zq m x.name<k
 |0,_,x,hx=>by cases hx
 |k+1,hk,x,hx=>by
  rw[qG] at hx
  rcases List.mem_append.1 hx with h|h
  ·have:=K4 (k:=k) (by omega) x h; omega
  ·rw[(zbB h).1]
   have:=zbA (m:=m) (k:=k) (by omega);omega
theorem Xv {m:Mo} {l:List Im}:∀{k:Nat},k<=m.types.length->Z8 Kn.name (qG m l k)
 |0,_=>List.Pairwise.nil
 |k+1,hk=>by
  rw[qG];refine List.pairwise_append.2 ⟨Xv (by omega),?_,fun x hx y hy=>?_⟩
  ·unfold Q4
   split
   ·exact List.pairwise_singleton _ _
   ·exact List.Pairwise.nil
  ·have h1:=K4 (k:=k) (by omega) x hx
   obtain⟨h2,h3⟩:=zbB hy
   cases hs:sEq x.name y.name with
   |false=>rfl
   |true=>
    rw[YV hs,h2] at h1;exact absurd h1 h3
theorem kA (m:Mo) (l:List Im):∀k,(xT m l k).Perm (qG m l k)
 |0=>List.Perm.refl _
 |k+1=>by
  rw[xT,qG];unfold Q4
  by_cases h:(qw m l k).2=0
  ·rw[if_pos h,if_pos h]
   refine (Qo Kn.name _ _).trans ?_;refine ((kA m l k).cons _).trans ?_;exact (List.perm_append_singleton _ _).symm
  ·rw[if_neg h,if_neg h,List.append_nil]
   exact kA m l k
theorem Qb {m:Mo} {l:List Im}:∀{k:Nat},k<=m.types.length->xN Kn.name (xT m l k)
 |0,_=>List.Pairwise.nil
 |k+1,hk=>by
  rw[xT]
  by_cases h:(qw m l k).2=0
  ·rw[if_pos h]
   refine QF Kn.name (Qb (by omega)) fun y hy=>?_
   have hy':=(kA m l k).subset hy;have hap:=Xv (m:=m) (l:=l) hk;rw[qG] at hap;refine (List.pairwise_append.1 hap).2.2 y hy' _ ?_;unfold Q4;rw[if_pos h]; exact List.mem_singleton.2 rfl
  ·rw[if_neg h]
   exact Qb (by omega)
theorem zgI {m:Mo} {l:List Im} {l':List Kn} (hp:l'.Perm (qG m l m.types.length)) (hr:xN Kn.name l'):l'=xT m l m.types.length:=
 Y0 Kn.name hr (Qb (Nat.le_refl _)) (hp.trans (kA m l _).symm)
theorem Yh (m:Mo) (l:List Im):∀k,(qG m l k).length<=k
 |0=>Nat.le_refl _
 |k+1=>by
  have:=Yh m l k;rw[qG,List.length_append];unfold Q4
  split <;> simp <;> omega
theorem Xi (m:Mo) (l:List Im):∀k,(qp m l k).length<=k
 |0=>Nat.le_refl _
 |k+1=>by
  have:=Xi m l k;rw[qp,List.length_append];unfold Vs
  split <;> simp <;> omega
theorem zbC (m:Mo) (l:List Im) (k:Nat):(xT m l k).length<=k:=by
 rw[(kA m l k).length_eq]; exact Yh m l k
theorem zbD {m:Mo} {l:List Im} {k:Nat} (h:(qw m l k).2=0):qG m l (k+1)=qG m l k++[⟨xF m k,(qw m l k).1⟩]/\qp m l (k+1)=qp m l k/\xT m l (k+1)=Q1 Kn.name ⟨xF m k,(qw m l k).1⟩ (xT m l k):=by
 refine⟨?_,?_,?_⟩
 ·rw[qG,Q4,if_pos h]
 ·rw[qp,Vs,if_pos h,List.append_nil]
 ·rw[xT,if_pos h]
theorem K5 {m:Mo} {l:List Im} {k:Nat} (h:(qw m l k).2≠0):qG m l (k+1)=qG m l k/\qp m l (k+1)=qp m l k++[⟨xF m k,(qw m l k).2⟩]/\xT m l (k+1)=xT m l k:=by
 refine⟨?_,?_,?_⟩
 ·rw[qG,Q4,if_neg h,List.append_nil]
 ·rw[qp,Vs,if_neg h]
 ·rw[xT,if_neg h]
theorem Yi {m:Mo} {l:List Im} (hz:∀i∈l,zH i.face) (hn:∀f∈m.types,f.name.size<=8) (k:Nat):(qw m l k).1.size<=maxLen/\(xF m k).size<=maxLen:=by
 constructor
 ·unfold qw
  split
  ·exact Nat.zero_le _
  ·cases hl:m.types.length <;> exact Y5 hz _ _ _ _ _
 ·unfold xF
  cases h:m.types[k]? with
  |none=>exact Nat.zero_le _
  |some f=>
   have:=hn f (List.mem_of_getElem? h);show f.name.size<=_;unfold maxLen; omega
theorem VJ {m:Mo} {l:List Im} (hz:∀i∈l,zH i.face) (hn:∀f∈m.types,f.name.size<=8):∀(k:Nat),∀x∈qG m l k,x.name.size<=maxLen/\x.is.size<=maxLen
 |0,x,hx=>by cases hx
 |k+1,x,hx=>by
  rw[qG] at hx
  rcases List.mem_append.1 hx with h|h
  ·exact VJ hz hn k x h
  ·unfold Q4 at h
   split at h
   ·rw[List.mem_singleton.1 h]
    exact⟨(Yi hz hn k).2,(Yi hz hn k).1⟩
   ·cases h
theorem Q5 {m:Mo} {l:List Im} (hn:∀f∈m.types,f.name.size<=8):∀(k:Nat),∀x∈qp m l k,x.wh.size<=maxLen
 |0,x,hx=>by cases hx
 |k+1,x,hx=>by
  rw[qp] at hx
  rcases List.mem_append.1 hx with h|h
  ·exact Q5 hn k x h
  ·unfold Vs at h
   split at h
   ·cases h
   ·rw[List.mem_singleton.1 h]
    show (xF m k).size<=_;unfold xF
    cases h:m.types[k]? with
    |none=>exact Nat.zero_le _
    |some f=>
     have:=hn f (List.mem_of_getElem? h);show f.name.size<=_;unfold maxLen; omega
def Xw (m:Mo) (l:List Im) (k:Nat):List Sg:=if qg m l k=0 then [vh m l k] else []
def JK (m:Mo) (l:List Im) (k:Nat):List Dg:=if qg m l k=0 then [] else [⟨j9 m k,qg m l k⟩]
def xU (m:Mo) (l:List Im):Nat->List Sg
 |0=>[]
 |k+1=>xU m l k++Xw m l k
def qJ (m:Mo) (l:List Im):Nat->List Dg
 |0=>[]
 |k+1=>qJ m l k++JK m l k
def yJ (m:Mo) (l:List Im):Nat->List Sg
 |0=>[]
 |k+1=>if qg m l k=0 then Q1 Sg.name (vh m l k) (yJ m l k) else yJ m l k
theorem zhG {α:Type} {p:α->Bool} {l:List α} {k:Nat} (hk:k<=l.length) (h:decide (zj p (l.take k)<(l.take k).length)=false):∀q (hq:q<k),p (l[q]'(by omega))=false:=fun q hq=>by
 cases hp:p (l[q]'(by omega)) with
 |false=>rfl
 |true=>
  have hl:(l.take k).length=k:=by rw[List.length_take]; omega
  have h1:q<(l.take k).length:=by omega
  have:=Km (p:=p) (l:=l.take k) (k:=q) h1 (by rw[List.getElem_take]; exact hp);have:=of_decide_eq_false h;omega
theorem JL {m:Mo} {l:List Im} {k:Nat} (hk:k<m.funcs.length) (h:qg m l k=0):(vh m l k).name=m.funcs[k].name/\∀q (hq:q<k),sEq (m.funcs[q]'(by omega)).name m.funcs[k].name=false:=by
 obtain⟨h1,h2⟩:=kz (l:=l) hk
 by_cases hh:jJ (m.funcs.take k) m.funcs[k].name=true
 ·rw[h1,if_pos hh] at h; exact absurd h (by decide)
 ·rw[h1,if_neg hh] at h
  rw[h2,if_neg hh];have hh':jJ (m.funcs.take k) m.funcs[k].name=false:=by simpa using hh
  refine⟨?_,zhG (p:=fun x:Fu=>sEq x.name m.funcs[k].name) (by omega) hh'⟩;unfold kT;rw[if_pos h]
theorem JM {m:Mo} {l:List Im}:∀{k:Nat},k<=m.funcs.length->∀x∈xU m l k,∃(q:Nat) (hq:q<m.funcs.length),q<k/\x.name=m.funcs[q].name
 |0,_,x,hx=>by cases hx
 |k+1,hk,x,hx=>by
  rw[xU] at hx
  rcases List.mem_append.1 hx with h|h
  ·obtain⟨q,hq,h1,h2⟩:=JM (k:=k) (by omega) x h
   exact⟨q,hq,by omega,h2⟩
  ·unfold Xw at h
   by_cases hc:qg m l k=0
   ·rw[if_pos hc,List.mem_singleton] at h
    subst h;exact⟨k,by omega,by omega,(JL (by omega) hc).1⟩
   ·rw[if_neg hc] at h; cases h
theorem Xx {m:Mo} {l:List Im}:∀{k:Nat},k<=m.funcs.length->Z8 Sg.name (xU m l k)
 |0,_=>List.Pairwise.nil
 |k+1,hk=>by
  rw[xU];refine List.pairwise_append.2 ⟨Xx (by omega),?_,fun x hx y hy=>?_⟩
  ·unfold Xw
   split
   ·exact List.pairwise_singleton _ _
   ·exact List.Pairwise.nil
  ·unfold Xw at hy
   by_cases hc:qg m l k=0
   ·rw[if_pos hc,List.mem_singleton] at hy
    subst hy;obtain⟨q,hq,h1,h2⟩:=JM (k:=k) (by omega) x hx;obtain⟨h3,h4⟩:=JL (m:=m) (l:=l) (k:=k) (by omega) hc;rw[h2,h3];exact h4 q h1
   ·rw[if_neg hc] at hy; cases hy
theorem kC (m:Mo) (l:List Im):∀k,(yJ m l k).Perm (xU m l k)
 |0=>List.Perm.refl _
 |k+1=>by
  rw[yJ,xU];unfold Xw
  by_cases h:qg m l k=0
  ·rw[if_pos h,if_pos h]
   refine (Qo Sg.name _ _).trans ?_;refine ((kC m l k).cons _).trans ?_;exact (List.perm_append_singleton _ _).symm
  ·rw[if_neg h,if_neg h,List.append_nil]
   exact kC m l k
theorem Qc {m:Mo} {l:List Im}:∀{k:Nat},k<=m.funcs.length->xN Sg.name (yJ m l k)
 |0,_=>List.Pairwise.nil
 |k+1,hk=>by
  rw[yJ]
  by_cases h:qg m l k=0
  ·rw[if_pos h]
   refine QF Sg.name (Qc (by omega)) fun y hy=>?_
   have hy':=(kC m l k).subset hy;have hap:=Xx (m:=m) (l:=l) hk;rw[xU] at hap;refine (List.pairwise_append.1 hap).2.2 y hy' _ ?_;unfold Xw;rw[if_pos h]; exact List.mem_singleton.2 rfl
  ·rw[if_neg h]
   exact Qc (by omega)
theorem zgJ {m:Mo} {l:List Im} {l':List Sg} (hp:l'.Perm (xU m l m.funcs.length)) (hr:xN Sg.name l'):l'=yJ m l m.funcs.length:=
 Y0 Sg.name hr (Qc (Nat.le_refl _)) (hp.trans (kC m l _).symm)
theorem Ji (m:Mo) (l:List Im):∀k,(xU m l k).length<=k
 |0=>Nat.le_refl _
 |k+1=>by
  have:=Ji m l k;rw[xU,List.length_append];unfold Xw
  split <;> simp <;> omega
theorem Y7 (m:Mo) (l:List Im):∀k,(qJ m l k).length<=k
 |0=>Nat.le_refl _
 |k+1=>by
  have:=Y7 m l k;rw[qJ,List.length_append];unfold JK
  split <;> simp <;> omega
theorem zbE (m:Mo) (l:List Im) (k:Nat):(yJ m l k).length<=k:=by
 rw[(kC m l k).length_eq]; exact Ji m l k
theorem zbF {m:Mo} {l:List Im} {k:Nat} (h:qg m l k=0):xU m l (k+1)=xU m l k++[vh m l k]/\qJ m l (k+1)=qJ m l k/\yJ m l (k+1)=Q1 Sg.name (vh m l k) (yJ m l k):=by
 refine⟨?_,?_,?_⟩
 ·rw[xU,Xw,if_pos h]
 ·rw[qJ,JK,if_pos h,List.append_nil]
 ·rw[yJ,if_pos h]
theorem K6 {m:Mo} {l:List Im} {k:Nat} (h:qg m l k≠0):xU m l (k+1)=xU m l k/\qJ m l (k+1)=qJ m l k++[⟨j9 m k,qg m l k⟩]/\yJ m l (k+1)=yJ m l k:=by
 refine⟨?_,?_,?_⟩
 ·rw[xU,Xw,if_neg h,List.append_nil]
 ·rw[qJ,JK,if_neg h]
 ·rw[yJ,if_neg h]
theorem Y8 {m:Mo} {l:List Im} (hn:∀f∈m.funcs,f.name.size<=8):∀(k:Nat),∀x∈qJ m l k,x.wh.size<=maxLen
 |0,x,hx=>by cases hx
 |k+1,x,hx=>by
  rw[qJ] at hx
  rcases List.mem_append.1 hx with h|h
  ·exact Y8 hn k x h
  ·unfold JK at h
   split at h
   ·cases h
   ·rw[List.mem_singleton.1 h]
    show (j9 m k).size<=_;unfold j9
    cases h:m.funcs[k]? with
    |none=>exact Nat.zero_le _
    |some f=>
     have:=hn f (List.mem_of_getElem? h);show f.name.size<=_;unfold maxLen; omega
end Go.Proofs.YtedpiamfpbdhoaaGreatDoor
namespace Go.Proofs.YtedpiamfpbdhoaaGreatDoor
open Go.RowKit Go.Shelf
open Go.Sort (grow putRowK putRow mapBlock ahead onCells HoldsK Holds flatK size_flatK get_flatK alloc_eq_grow grow_grow)
section
variable {α:Type} [Inhabited α] (enc:α->List Value) (k:Nat)
theorem zcW (hk:∀x,(enc x).length=k) (hk0:0<k):∀(l:List α) (j:Nat),j<l.length * k->(l.flatMap enc)[j]? = some ((enc (l.toArray[j / k]!))[j % k]!)
 |[],j,h=>by simp at h
 |x::r,j,h=>by
  rw[List.flatMap_cons]
  by_cases hj:j<k
  ·rw[List.getElem?_append_left (by rw[hk]; exact hj),Nat.div_eq_of_lt hj,Nat.mod_eq_of_lt hj]
   have:(x::r).toArray[0]! = x:=by simp
   rw[this,List.getElem?_eq_getElem (by rw[hk]; exact hj),getElem!_pos]
  ·have hj':j - k<r.length * k:=by rw[List.length_cons,Nat.add_mul,Nat.one_mul] at h; omega
   rw[List.getElem?_append_right (by rw[hk]; omega),hk,zcW hk hk0 r (j - k) hj'];have e1:j / k=(j - k) / k+1:=by
    conv=>lhs; rw[show j=(j - k)+k by omega]
    exact Nat.add_div_right _ hk0
   have e2:j % k=(j - k) % k:=by
    conv=>lhs; rw[show j=(j - k)+k by omega]
    exact Nat.add_mod_right _ _
   rw[e1,e2];have:(x::r).toArray[(j - k) / k+1]! = r.toArray[(j - k) / k]!:=by
    simp[getElem!_def]
   rw[this]
theorem JN {w:World} {base:Nat} {e:TypeId} {g cap:Nat} {l:List α} (hk:∀x,(enc x).length=k) (hk0:0<k) (h:w.ownsRow base e k (.slice (some ⟨g,0,none⟩) l.length cap) l.length (l.flatMap enc)):HoldsK enc k w g 0 l.toArray:=by
 obtain⟨hx,⟨hv,_⟩|⟨g',cap',cur,hv,hg,hh,h1,h2,h3,h4⟩⟩:=h
 ·cases hv
 ·injection hv with e1 e2 e3
  injection e1 with e1
  injection e1 with e1
  subst e1 e3;intro j hj;rw[size_flatK] at hj;have hj':j<l.length * k:=by simpa using hj
  have hf:=zcW enc k hk hk0 l j hj';rw[<- h4,List.getElem?_take_of_lt hj'] at hf;rw[get_flatK enc k l.toArray j hj];refine⟨?_,Lib.frozen_of_heap hh _⟩;rw[cell_of_row w g (0+j) cur e (0,0) hh,Nat.zero_add];simpa using hf
theorem Xj {w:World} {g m:Nat} {d:Array α} {os:Array Obj}:w.grownBy (sortWorldK enc k w g 0 m d os) (some g):=by
 refine⟨rfl,rfl,rfl,?_,fun j hj hjg=>?_⟩
 ·simp[sortWorldK,grow,putRowK,putRow,mapBlock]
 ·have hne:g≠j:=fun e=>hjg (by rw[e])
  simp[sortWorldK,grow,putRowK,putRow,mapBlock,Array.getElem?_append,hj,Array.getElem_modify,hne]
theorem Xk {w:World} {g m:Nat} {d d':Array α} {os:Array Obj} (hH:HoldsK enc k w g 0 d) (hg:g<w.heap.size) (hs:d'.size=d.size):HoldsK enc k (sortWorldK enc k w g 0 m d' os) g 0 d':=
 SWK.holds ⟨m,os,rfl⟩ hg hH hs
end
end Go.Proofs.YtedpiamfpbdhoaaGreatDoor
namespace Go.Proofs
open Go.Shelf
def Tryz.sortKn_ren:Go.Shelf.Ren:=⟨fun|6=>105|15=>86|14=>175|28=>150|29=>151|20=>248|21=>249|22=>250|23=>251|24=>252|25=>253|26=>254|27=>255|46=>291|47=>216|48=>217|49=>292|50=>293|57=>316|n=>n,fun|22=>23|24=>74|25=>170|3=>3|39=>154|0=>0|53=>210|55=>212|4=>4|46=>202|45=>201|50=>207|5=>5|9=>9|66=>259|70=>263|76=>296|77=>297|n=>n,fun|n=>n⟩
theorem Tryz.sortKn:Go.Proofs.SlLaysF0.n6 Tryz.prog Tryz.sortKn_ren:={
 mixed:=by kernel_rfl
 f6:=⟨Tryz.f105.name,by decide,Tryz.func105.trans (congrArg some (by kernel_rfl))⟩
 f14:=⟨Tryz.f175.name,by decide,Tryz.func175.trans (congrArg some (by kernel_rfl))⟩
 f15:=Tryz.func86.trans (congrArg some (by kernel_rfl))
 f20:=⟨Tryz.f248.name,by decide,Tryz.func248.trans (congrArg some (by kernel_rfl))⟩
 f21:=⟨Tryz.f249.name,by decide,Tryz.func249.trans (congrArg some (by kernel_rfl))⟩
 f22:=⟨Tryz.f250.name,by decide,Tryz.func250.trans (congrArg some (by kernel_rfl))⟩
 f23:=⟨Tryz.f251.name,by decide,Tryz.func251.trans (congrArg some (by kernel_rfl))⟩
 f24:=⟨Tryz.f252.name,by decide,Tryz.func252.trans (congrArg some (by kernel_rfl))⟩
 f25:=⟨Tryz.f253.name,by decide,Tryz.func253.trans (congrArg some (by kernel_rfl))⟩
 f26:=⟨Tryz.f254.name,by decide,Tryz.func254.trans (congrArg some (by kernel_rfl))⟩
 f27:=⟨Tryz.f255.name,by decide,Tryz.func255.trans (congrArg some (by kernel_rfl))⟩
 f28:=Tryz.func150.trans (congrArg some (by kernel_rfl))
 f29:=Tryz.func151.trans (congrArg some (by kernel_rfl))
 f46:=⟨Tryz.f291.name,by decide,Tryz.func291.trans (congrArg some (by kernel_rfl))⟩
 f47:=Tryz.func216.trans (congrArg some (by kernel_rfl))
 f48:=Tryz.func217.trans (congrArg some (by kernel_rfl))
 f49:=⟨Tryz.f292.name,by decide,Tryz.func292.trans (congrArg some (by kernel_rfl))⟩
 f50:=⟨Tryz.f293.name,by decide,Tryz.func293.trans (congrArg some (by kernel_rfl))⟩
 f57:=⟨Tryz.f316.name,by decide,Tryz.func316.trans (congrArg some (by kernel_rfl))⟩
 t0:=Tryz.underlying0
 a0:=Tryz.isAgg0
 z0:=Tryz.sizeOf0
 v0:=Tryz.zeroValue0
 t3:=Tryz.underlying3
 a3:=Tryz.isAgg3
 z3:=Tryz.sizeOf3
 v3:=Tryz.zeroValue3
 t4:=Tryz.underlying4
 a4:=Tryz.isAgg4
 z4:=Tryz.sizeOf4
 v4:=Tryz.zeroValue4
 t5:=Tryz.underlying5
 a5:=Tryz.isAgg5
 z5:=Tryz.sizeOf5
 v5:=Tryz.zeroValue5
 t9:=Tryz.underlying9
 a9:=Tryz.isAgg9
 z9:=Tryz.sizeOf9
 v9:=Tryz.zeroValue9
 t22:=Tryz.underlying23
 a22:=Tryz.isAgg23
 z22:=Tryz.sizeOf23
 v22:=Tryz.zeroValue23
 t25:=Tryz.underlying170
 a25:=Tryz.isAgg170
 z25:=Tryz.sizeOf170
 v25:=Tryz.zeroValue170
 t39:=Tryz.underlying154
 a39:=Tryz.isAgg154
 z39:=Tryz.sizeOf154
 v39:=Tryz.zeroValue154
 t45:=Tryz.underlying201
 a45:=Tryz.isAgg201
 z45:=Tryz.sizeOf201
 v45:=Tryz.zeroValue201
 t46:=Tryz.underlying202
 a46:=Tryz.isAgg202
 z46:=Tryz.sizeOf202
 v46:=Tryz.zeroValue202
 t50:=Tryz.underlying207
 a50:=Tryz.isAgg207
 z50:=Tryz.sizeOf207
 v50:=Tryz.zeroValue207
 t53:=Tryz.underlying210
 a53:=Tryz.isAgg210
 z53:=Tryz.sizeOf210
 v53:=Tryz.zeroValue210
 t55:=Tryz.underlying212
 a55:=Tryz.isAgg212
 z55:=Tryz.sizeOf212
 v55:=Tryz.zeroValue212
 t66:=Tryz.underlying259
 a66:=Tryz.isAgg259
 z66:=Tryz.sizeOf259
 v66:=Tryz.zeroValue259
 t70:=Tryz.underlying263
 a70:=Tryz.isAgg263
 z70:=Tryz.sizeOf263
 v70:=Tryz.zeroValue263
 t76:=Tryz.underlying296
 a76:=Tryz.isAgg296
 z76:=Tryz.sizeOf296
 v76:=Tryz.zeroValue296
 t77:=Tryz.underlying297
 a77:=Tryz.isAgg297
 z77:=Tryz.sizeOf297
 v77:=Tryz.zeroValue297 }
def Tryz.sortSg_ren:Go.Shelf.Ren:=⟨fun|6=>58|15=>86|14=>112|28=>150|29=>151|20=>182|21=>183|22=>184|23=>185|24=>186|25=>187|26=>188|27=>189|46=>261|47=>216|48=>217|49=>262|50=>263|57=>298|n=>n,fun|22=>24|24=>76|25=>121|3=>3|39=>154|0=>0|53=>210|55=>212|4=>4|46=>202|45=>201|50=>207|5=>5|9=>9|66=>259|70=>263|76=>296|77=>297|n=>n,fun|n=>n⟩
theorem Tryz.sortSg:Go.Proofs.SlLaysF0.n6 Tryz.prog Tryz.sortSg_ren:={
 mixed:=by kernel_rfl
 f6:=⟨Tryz.f58.name,by decide,Tryz.func58.trans (congrArg some (by kernel_rfl))⟩
 f14:=⟨Tryz.f112.name,by decide,Tryz.func112.trans (congrArg some (by kernel_rfl))⟩
 f15:=Tryz.func86.trans (congrArg some (by kernel_rfl))
 f20:=⟨Tryz.f182.name,by decide,Tryz.func182.trans (congrArg some (by kernel_rfl))⟩
 f21:=⟨Tryz.f183.name,by decide,Tryz.func183.trans (congrArg some (by kernel_rfl))⟩
 f22:=⟨Tryz.f184.name,by decide,Tryz.func184.trans (congrArg some (by kernel_rfl))⟩
 f23:=⟨Tryz.f185.name,by decide,Tryz.func185.trans (congrArg some (by kernel_rfl))⟩
 f24:=⟨Tryz.f186.name,by decide,Tryz.func186.trans (congrArg some (by kernel_rfl))⟩
 f25:=⟨Tryz.f187.name,by decide,Tryz.func187.trans (congrArg some (by kernel_rfl))⟩
 f26:=⟨Tryz.f188.name,by decide,Tryz.func188.trans (congrArg some (by kernel_rfl))⟩
 f27:=⟨Tryz.f189.name,by decide,Tryz.func189.trans (congrArg some (by kernel_rfl))⟩
 f28:=Tryz.func150.trans (congrArg some (by kernel_rfl))
 f29:=Tryz.func151.trans (congrArg some (by kernel_rfl))
 f46:=⟨Tryz.f261.name,by decide,Tryz.func261.trans (congrArg some (by kernel_rfl))⟩
 f47:=Tryz.func216.trans (congrArg some (by kernel_rfl))
 f48:=Tryz.func217.trans (congrArg some (by kernel_rfl))
 f49:=⟨Tryz.f262.name,by decide,Tryz.func262.trans (congrArg some (by kernel_rfl))⟩
 f50:=⟨Tryz.f263.name,by decide,Tryz.func263.trans (congrArg some (by kernel_rfl))⟩
 f57:=⟨Tryz.f298.name,by decide,Tryz.func298.trans (congrArg some (by kernel_rfl))⟩
 t0:=Tryz.underlying0
 a0:=Tryz.isAgg0
 z0:=Tryz.sizeOf0
 v0:=Tryz.zeroValue0
 t3:=Tryz.underlying3
 a3:=Tryz.isAgg3
 z3:=Tryz.sizeOf3
 v3:=Tryz.zeroValue3
 t4:=Tryz.underlying4
 a4:=Tryz.isAgg4
 z4:=Tryz.sizeOf4
 v4:=Tryz.zeroValue4
 t5:=Tryz.underlying5
 a5:=Tryz.isAgg5
 z5:=Tryz.sizeOf5
 v5:=Tryz.zeroValue5
 t9:=Tryz.underlying9
 a9:=Tryz.isAgg9
 z9:=Tryz.sizeOf9
 v9:=Tryz.zeroValue9
 t22:=Tryz.underlying24
 a22:=Tryz.isAgg24
 z22:=Tryz.sizeOf24
 v22:=Tryz.zeroValue24
 t25:=Tryz.underlying121
 a25:=Tryz.isAgg121
 z25:=Tryz.sizeOf121
 v25:=Tryz.zeroValue121
 t39:=Tryz.underlying154
 a39:=Tryz.isAgg154
 z39:=Tryz.sizeOf154
 v39:=Tryz.zeroValue154
 t45:=Tryz.underlying201
 a45:=Tryz.isAgg201
 z45:=Tryz.sizeOf201
 v45:=Tryz.zeroValue201
 t46:=Tryz.underlying202
 a46:=Tryz.isAgg202
 z46:=Tryz.sizeOf202
 v46:=Tryz.zeroValue202
 t50:=Tryz.underlying207
 a50:=Tryz.isAgg207
 z50:=Tryz.sizeOf207
 v50:=Tryz.zeroValue207
 t53:=Tryz.underlying210
 a53:=Tryz.isAgg210
 z53:=Tryz.sizeOf210
 v53:=Tryz.zeroValue210
 t55:=Tryz.underlying212
 a55:=Tryz.isAgg212
 z55:=Tryz.sizeOf212
 v55:=Tryz.zeroValue212
 t66:=Tryz.underlying259
 a66:=Tryz.isAgg259
 z66:=Tryz.sizeOf259
 v66:=Tryz.zeroValue259
 t70:=Tryz.underlying263
 a70:=Tryz.isAgg263
 z70:=Tryz.sizeOf263
 v70:=Tryz.zeroValue263
 t76:=Tryz.underlying296
 a76:=Tryz.isAgg296
 z76:=Tryz.sizeOf296
 v76:=Tryz.zeroValue296
 t77:=Tryz.underlying297
 a77:=Tryz.isAgg297
 z77:=Tryz.sizeOf297
 v77:=Tryz.zeroValue297 }
def Tryz.lays106_ren:Go.Shelf.Ren:=⟨fun|106=>60|213=>113|265=>190|n=>n,fun|9=>9|3=>3|n=>n,fun|n=>n⟩
theorem Tryz.lays106:Go.Proofs.Lays.n106 Tryz.prog Tryz.lays106_ren:={
 mixed:=by kernel_rfl
 f106:=Tryz.func60.trans (congrArg some (by kernel_rfl))
 f213:=Tryz.func113.trans (congrArg some (by kernel_rfl))
 f265:=Tryz.func190.trans (congrArg some (by kernel_rfl))
 t3:=Tryz.underlying3
 a3:=Tryz.isAgg3
 z3:=Tryz.sizeOf3
 v3:=Tryz.zeroValue3
 t9:=Tryz.underlying9
 a9:=Tryz.isAgg9
 z9:=Tryz.sizeOf9
 v9:=Tryz.zeroValue9 }
theorem Tryz.strings_Compare (a b:ByteArray) (w:World) :
  Calls Tryz.prog 60 #[.string a,.string b] w fun e w'=>e=.returned (.int .i64 (Lib.compareBytes a.data.toList b.data.toList))/\w'=w:=Any.strings_Compare Tryz.lays106 a b w
end Go.Proofs
namespace Go.Proofs.YtedpiamfpbdhoaaGreatDoor
open Go.RowKit Go.Shelf
open Go.Sort (grow putRowK putRow mapBlock ahead onCells HoldsK Holds flatK size_flatK get_flatK alloc_eq_grow grow_grow)
abbrev Sy:=Sg×Option Addr×Nat×Nat
def jP (y:Sy):ByteArray:=y.1.name
def Vt (y:Sy):Value:=.slice y.2.1 y.2.2.1 y.2.2.2
def kU (y:Sy):List Value:=[.string y.1.name,.slice y.2.1 y.2.2.1 y.2.2.2,.string y.1.result]
def Zk (l:List Sy):List Value:=l.flatMap kU
theorem zbG (l:List Sy) (y:Sy):Zk (l++[y])=Zk l++[.string y.1.name,Vt y,.string y.1.result]:=by simp[Zk,kU,Vt]
def zia (w:World) (y:Sy) (b o:Nat):Prop:=w.cell? ⟨b,o,none⟩=some (.string y.1.name)/\w.cell? ⟨b,o+1,none⟩=some (Vt y)/\w.cell? ⟨b,o+2,none⟩=some (.string y.1.result)
theorem zfi (x y:Sy) (W:World):Calls Tryz.prog 59 #[.agg #[.string x.1.name,.slice x.2.1 x.2.2.1 x.2.2.2,.string x.1.result],.agg #[.string y.1.name,.slice y.2.1 y.2.2.1 y.2.2.2,.string y.1.result]] W fun e w'=>e=.returned (.int .i64 (kJ jP x y))/\∃q os',w'=grow (W.drewN q) os':=by
 have HC:Hid (∀W,Calls Tryz.prog 60 #[.string x.1.name,.string y.1.name] W fun e w'=>e=.returned (.int .i64 (Lib.compareBytes x.1.name.data.toList y.1.name.data.toList))/\w'=W):=fun W=>Tryz.strings_Compare x.1.name y.1.name W
 have HE:Hid (kJ jP x y=Lib.compareBytes x.1.name.data.toList y.1.name.data.toList):=rfl;generalize kJ jP x y=r at *;generalize Lib.compareBytes x.1.name.data.toList y.1.name.data.toList=r' at *;go_enter Tryz.func59,Tryz.ntmps59;go_wp2_with fail;refine (HC.out _).mono ?_;rintro e w' ⟨rfl,rfl⟩;go_wp2_with fail;go_ret;exact⟨by rw[HE.out]; rfl,0,_,by rw[alloc_eq_grow,alloc_eq_grow,grow_grow]; rfl⟩
theorem zhH {w:World} {base:Nat} {v:Value} {l:List Sy} (h:w.ownsRow base 76 3 v l.length (Zk l)) (hl:l.length<=100) (ha:Z8 jP l) :
  Calls Tryz.prog 58 #[v,.func (.func 59) #[] #[]] w fun e w'=>e=.returned (.tuple #[])/\(∃l',l'.Perm l/\xN jP l'/\ze (fun b=>(v.ownBlock=some b/\base<=b)/\b<w'.heap.size) (zia w') 3 l' v)/\w.grownBy w' v.ownBlock:=by
 have hml:l.length<=maxLen:=by unfold maxLen; omega
 by_cases he:l=[]
 ·subst he
  obtain⟨a,cap,rfl⟩:∃a cap,v=.slice a 0 cap:=by
   obtain⟨_,⟨hv,_⟩|⟨g,cap,cur,hv,_⟩⟩:=h
   ·exact⟨_,_,hv⟩
   ·exact⟨_,_,hv⟩
  have hc:=AnyF.slices_SortFunc_none Tryz.sortSg a cap (.func (.func 59) #[] #[]) w
  change Calls Tryz.prog 58 _ _ _ at hc
  refine hc.mono ?_;rintro e w' ⟨rfl,rfl⟩;refine⟨rfl,⟨[],List.Perm.refl _,List.Pairwise.nil,a,cap,rfl,⟨by simp,by simp⟩,Or.inl rfl⟩,⟨rfl,rfl,rfl,Nat.le_refl _,fun _ _ _=>rfl⟩⟩
 ·have hpos:0<l.length:=List.length_pos_iff.2 he
  obtain⟨g,cap,rfl,hg,hgl⟩:=h.form hpos;have hH:HoldsK kU 3 w g 0 l.toArray:=JN kU 3 (fun _=>rfl) (by omega) h;have hcap:l.length<=cap:=by
   obtain⟨_,⟨hv,_⟩|⟨g',cap',cur,hv,_,_,h1,_⟩⟩:=h
   ·cases hv
   ·injection hv with _ _ e3
    subst e3; exact h1
  have hsz:l.toArray.size=l.length:=by simp
  have eg:∀args w,(callFunc 59 args).run Tryz.prog w=.ok (.enter 59 args) w:=enters_of Tryz.func59 (by kernel_rfl) rfl;have hcmp:CmpLays Tryz.prog 59 #[] kU 3 (kJ jP) g 0 l.toArray.size w:=fun _ _ _ _ x y=>zfi x y _
  have hc:=AnyQ.slices_SortFunc Tryz.sortSg 3 Tryz.isAgg76 Tryz.sizeOf76 kU (fun _=>rfl) (fun x v hv=>by simp[kU] at hv; rcases hv with rfl|rfl|rfl <;> rfl) (kJ jP) (zbw jP) 59 #[] g 0 cap l.toArray w eg hcmp hH hgl (by rw[hsz]; omega)
  change Calls Tryz.prog 58 _ _ _ at hc
  rw[hsz] at hc;refine hc.mono ?_;rintro e w' ⟨rfl,d',n,os,hp,hs,rfl⟩;have hp':Sort.PermIn 0 l.toArray.size l.toArray d':=by rw[hsz]; exact hp
  have hs':Sort.SortedIn (ltOf (kJ jP)) 0 l.toArray.size d':=by rw[hsz]; exact hs
  obtain⟨hperm,hrise⟩:=Y1 jP hp' hs' (by simpa using ha);have hlen:d'.toList.length=l.length:=by rw[hperm.length_eq]
  have hds:d'.size=l.toArray.size:=by rw[hsz,<- hlen,Array.length_toList]
  have hH':=Xk kU 3 (m:=n) (os:=os) hH hgl hds;have hbl:=Xj kU 3 (w:=w) (g:=g) (m:=n) (d:=d') (os:=os);refine⟨rfl,⟨d'.toList,by simpa using hperm,hrise,some ⟨g,0,none⟩,cap,by rw[hlen],⟨by rw[hlen]; exact hml,by rw[hlen]; exact hcap⟩,Or.inr ⟨g,0,rfl,⟨⟨rfl,hg⟩,Nat.lt_of_lt_of_le hgl ?_⟩,qA.mk fun i hi=>?_⟩⟩,hbl⟩
  ·simp[sortWorldK,grow,putRowK,putRow,mapBlock]
  ·have hi':i<d'.size:=by simpa using hi
   have g0:=(hH' (i * 3) (by rw[size_flatK]; omega)).1;have g1:=(hH' (i * 3+1) (by rw[size_flatK]; omega)).1;have g2:=(hH' (i * 3+2) (by rw[size_flatK]; omega)).1;rw[get_flatK _ _ _ _ (by omega),show i * 3 / 3=i by omega,show i * 3 % 3=0 by omega] at g0;rw[get_flatK _ _ _ _ (by omega),show (i * 3+1) / 3=i by omega,show (i * 3+1) % 3=1 by omega] at g1;rw[get_flatK _ _ _ _ (by omega),show (i * 3+2) / 3=i by omega,show (i * 3+2) % 3=2 by omega] at g2;have e0:d'[i]! = d'.toList[i]:=by simp[getElem!_pos,hi']
   rw[e0] at g0 g1 g2;exact⟨by simpa [kU] using g0,by simpa [kU,Vt,Nat.add_assoc] using g1,by simpa [kU,Nat.add_assoc] using g2⟩
end Go.Proofs.YtedpiamfpbdhoaaGreatDoor
