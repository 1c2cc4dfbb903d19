import Derived.Test.YtedpiamfpbdhoaaGreatDoorJFg14
set_option maxHeartbeats 40000000
set_option maxRecDepth 100000
namespace Go.Proofs.YtedpiamfpbdhoaaGreatDoor
open Go.RowKit
theorem JB (S:Nat->Prop) (l:List Rw) (v:Value) (w:World) (hS:∀b,S b->b<w.heap.size) (hv:ze S (qK w) 4 l v) (hnm:qz w) :
  Calls Tryz.prog 10 #[v] w fun e w'=>∃mo u,e=.returned u/\qT (fun b=>b<w'.heap.size) w' mo u/\(zI mo=0/\mo.uses.length+mo.types.length+mo.funcs.length<=9)/\Below w.heap.size w w':=by
 have HV0:=zd hv;have HNm:=zd hnm;obtain⟨a,cap,rfl,hcap⟩:=hv.isCap;clear hv hcap hnm;obtain⟨w2,hwe,hs2,hM0,hbel,hres⟩:∃w2,(w.alloc (.cells #[.slice none 0 0,.slice none 0 0,.slice none 0 0] 41)).alloc (.cells #[.slice none 0 0,.slice none 0 0,.slice none 0 0] 41)=w2/\w2.heap.size=w.heap.size+2/\
   ModAt (w.heap.size+2) (w.heap.size+1) (w.heap.size+2) ⟨[],[],[]⟩ (.slice none 0 0) (.slice none 0 0) (.slice none 0 0) w2/\Below w.heap.size w w2/\w2.heap[w.heap.size]? = some (.cells #[.slice none 0 0,.slice none 0 0,.slice none 0 0] 41 (0,0)):=by
  refine⟨_,rfl,by simp,zeU,((Below.refl _ _).alloc (Nat.le_refl _) _).alloc (by simp) _,?_⟩;have hb1:Below (w.heap.size+1) (w.alloc (.cells #[.slice none 0 0,.slice none 0 0,.slice none 0 0] 41)) ((w.alloc (.cells #[.slice none 0 0,.slice none 0 0,.slice none 0 0] 41)).alloc (.cells #[.slice none 0 0,.slice none 0 0,.slice none 0 0] 41)):=(Below.refl _ _).alloc (by simp) _;exact (hb1.block _ (by omega)).trans (heap_alloc_new _ _)
 have HRes:Hid (∀W,Below (w.heap.size+1) w2 W->(W.cell? ⟨w.heap.size,0,none⟩=some (.slice none 0 0)/\W.cell? ⟨w.heap.size,1,none⟩=some (.slice none 0 0)/\W.cell? ⟨w.heap.size,2,none⟩=some (.slice none 0 0))/\(W.frozen? ⟨w.heap.size,0,none⟩=false/\W.frozen? ⟨w.heap.size,1,none⟩=false/\W.frozen? ⟨w.heap.size,2,none⟩=false)/\Below w.heap.size w W):=fun W h=>by
  have g:=(h.block w.heap.size (by omega)).trans hres;refine⟨⟨?_,?_,?_⟩,⟨frozen_of_row _ _ _ _ _ g,frozen_of_row _ _ _ _ _ g,frozen_of_row _ _ _ _ _ g⟩,hbel.trans (h.mono (by omega))⟩
  all_goals (rw[cell_of_row _ _ _ _ _ _ g]; rfl)
 have HM0:=zd hM0;have HWe:=zd hwe;clear hwe hM0 hbel hres;go_enter Tryz.func10,Tryz.ntmps10;go_wp2_with fail;rw[HWe.out];clear HWe
 go_loopw [0,4] (fun v i wr=>∃(l':List Rw) (k:Nat) (mo:Mo) (vu vt vf:Value) (n1:Nat),ze S (qK w) 4 l' v/\k<=9/\i=.int .i64 k/\MoGood k mo/\ModAt (w.heap.size+2) (w.heap.size+1) n1 mo vu vt vf wr/\Below (w.heap.size+1) w2 wr) (fun _ i _=>9 - (intOf i).toNat)
 case atStart=>exact⟨l,0,⟨[],[],[]⟩,_,_,_,_,HV0.out,by omega,rfl,⟨by simp,by simp,by simp,by simp⟩,HM0.out,Below.refl _ _⟩
 case round=>
  clear HV0 HM0;obtain⟨l',k,mo,vu,vt,vf,n1,hv,hk,rfl,hgood,hmod,hbl⟩:=hrel;have HGood:=zd hgood;have HMod:=zd hmod;have HBl:=zd hbl;have HV:=zd hv;have hlen:=hv.len;unfold maxLen at hlen;obtain⟨a',cap',rfl,hcap⟩:=hv.isCap;clear hgood hmod hbl hv;obtain⟨⟨y0,y1,y2⟩,⟨z0,z1,z2⟩,hbw⟩:=HRes.out _ HBl.out;have HBw:=zd hbw;clear hbw
  by_cases hgo:0<l'.length/\k<9
  case neg=>
   have c0:wr.cell? ⟨w.heap.size+1,0,none⟩=some vu:=by rw[cell_of_row _ _ _ _ _ _ HMod.out.mod]; rfl
   have c1:wr.cell? ⟨w.heap.size+1,1,none⟩=some vt:=by rw[cell_of_row _ _ _ _ _ _ HMod.out.mod]; rfl
   have c2:wr.cell? ⟨w.heap.size+1,2,none⟩=some vf:=by rw[cell_of_row _ _ _ _ _ _ HMod.out.mod]; rfl
   have hlg:=HGood.out.len;have HIs:=zd (HMod.out.is (by unfold maxLen; omega) (by unfold maxLen; omega) (by unfold maxLen; omega));obtain⟨⟨p1,p2,p3,rfl⟩,⟨q1,q2,q3,rfl⟩,⟨r1,r2,r3,rfl⟩⟩:(∃p1 p2 p3,vu=.slice p1 p2 p3)/\(∃p1 p2 p3,vt=.slice p1 p2 p3)/\(∃p1 p2 p3,vf=.slice p1 p2 p3):=by
    obtain⟨_,_,_,e,h1,h2,h3⟩:=HIs.out;injection e with e
    have e':[vu,vt,vf]=_:=congrArg Array.toList e;injection e' with e1 e'
    injection e' with e2 e'
    injection e' with e3 _
    subst e1 e2 e3;exact⟨h1.slice,h2.slice,h3.slice⟩
   have HFin:Hid (∀u0 u1 u2,qT (fun b=>b<(((wr.setCell ⟨w.heap.size,0,none⟩ u0).setCell ⟨w.heap.size,1,none⟩ u1).setCell ⟨w.heap.size,2,none⟩ u2).heap.size) (((wr.setCell ⟨w.heap.size,0,none⟩ u0).setCell ⟨w.heap.size,1,none⟩ u1).setCell ⟨w.heap.size,2,none⟩ u2) mo (.agg #[.slice p1 p2 p3,.slice q1 q2 q3,.slice r1 r2 r3])):=fun u0 u1 u2=>by
    refine HIs.out.keep ⟨fun b hb=>?_,fun b hb=>?_⟩
    ·have:=hb.1
     rw[Below.heap_setCell _ _ _ _ (by show b≠w.heap.size; omega),Below.heap_setCell _ _ _ _ (by show b≠w.heap.size; omega),Below.heap_setCell _ _ _ _ (by show b≠w.heap.size; omega)]
    ·show b<_
     rw[zT,zT,zT];exact hb.2
   have HSet:Hid (∀u0 u1 u2,Below w.heap.size w (((wr.setCell ⟨w.heap.size,0,none⟩ u0).setCell ⟨w.heap.size,1,none⟩ u1).setCell ⟨w.heap.size,2,none⟩ u2)):=fun u0 u1 u2=>
    ((HBw.out.setCell (Nat.le_refl _) _).setCell (Nat.le_refl _) _).setCell (Nat.le_refl _) _
   have HOk:=zd (HGood.out.ok hk);clear HIs HMod HV
   by_cases h0:0<l'.length
   ·have h0':(0:Int)<(l'.length:Int):=by omega
    have hk9:¬(k:Int)<9:=by omega
    go_wp2_with fail;exact bodyPost_ret (v:=.agg #[.slice p1 p2 p3,.slice q1 q2 q3,.slice r1 r2 r3]) (by simp[results,Tryz.results10,go_sem,y0,y1,y2]) rfl ⟨mo,_,rfl,HFin.out _ _ _,⟨HOk.out,by omega⟩,HSet.out _ _ _⟩
   ·have h0':¬(0:Int)<(l'.length:Int):=by omega
    go_wp2_with fail;exact bodyPost_ret (v:=.agg #[.slice p1 p2 p3,.slice q1 q2 q3,.slice r1 r2 r3]) (by simp[results,Tryz.results10,go_sem,y0,y1,y2]) rfl ⟨mo,_,rfl,HFin.out _ _ _,⟨HOk.out,by omega⟩,HSet.out _ _ _⟩
  case pos=>
   clear y0 y1 y2 z0 z1 z2;obtain⟨hl0,hk9⟩:=hgo;have hl0':(0:Int)<(l'.length:Int):=by omega
   have hk9':(k:Int)<9:=by omega
   obtain⟨_,b,off,rfl,hb,⟨⟨a0,a1,a2,a3⟩,f0,f1,f2,f3⟩⟩:=HV.out.at (k:=0) hl0;have hbk:=hS b hb;simp only[Nat.zero_mul,Nat.add_zero] at a0 a1 a2 a3 f0 f1 f2 f3;have d0:=(HBw.out.cell (p:=⟨b,off,none⟩) hbk).trans a0;have d1:=(HBw.out.cell (p:=⟨b,off+1,none⟩) hbk).trans a1;have d2:=(HBw.out.cell (p:=⟨b,off+2,none⟩) hbk).trans a2;have d3:=(HBw.out.cell (p:=⟨b,off+3,none⟩) hbk).trans a3;clear a0 a1 a2 a3;generalize l'[0]=r at *;obtain⟨nn,hnn,hnn1,hnn9,hnnl⟩:∃nn:Nat,min (l'.length:Int) 9=nn/\1<=nn/\nn<=9/\nn<=l'.length:=by
    by_cases h9:l'.length<=9
    ·exact⟨l'.length,by omega,by omega,by omega,by omega⟩
    ·exact⟨9,by omega,by omega,by omega,by omega⟩
   obtain⟨pa,pc,hrunp,hpart⟩:∃pa pc,(∀W,(Instr.slice 34 (.slice (some ⟨b,off,none⟩) l'.length cap') (some (.int .i64 1)) (some (.int .i64 (min (l'.length:Int) 9))) none).run Tryz.prog W=.ok (.slice pa (nn - 1) pc) W)/\ze S (qK w) 4 ((l'.drop 1).take (nn - 1)) (.slice pa (nn - 1) pc):=by
    obtain⟨pa,pc,hsl,hp⟩:=yW HV.out (i:=1) (j:=nn) hnn1 hnnl;exact⟨pa,pc,fun W=>by rw[zh0 (some ⟨b,off,none⟩) l'.length cap' 1 nn 1 _ rfl hnn hnn1 (by omega) W,hsl],hp⟩
   obtain⟨qa,qc,hrunq,hrest⟩:∃qa qc,(∀W,(Instr.slice 34 (.slice (some ⟨b,off,none⟩) l'.length cap') (some (.int .i64 (min (l'.length:Int) 9))) none none).run Tryz.prog W=.ok (.slice qa (l'.length - nn) qc) W)/\ze S (qK w) 4 ((l'.drop nn).take (l'.length - nn)) (.slice qa (l'.length - nn) qc):=by
    obtain⟨qa,qc,hsl,hp⟩:=yW HV.out (i:=nn) (j:=l'.length) hnnl (Nat.le_refl _);exact⟨qa,qc,fun W=>by rw[Zs (some ⟨b,off,none⟩) l'.length cap' nn _ hnn hnnl W,hsl],hp⟩
   have HPart:=zd hpart;have HRest:=zd hrest;have hpn:nn - 1<=8:=by omega
   clear hpart hrest HV;generalize (l'.drop 1).take (nn - 1)=lp at *;generalize (l'.drop nn).take (l'.length - nn)=lq at *;generalize nn - 1=pn at *;generalize l'.length - nn=qn at *;clear hnn hnn1 hnn9 hnnl;obtain⟨w3,hw3,hs3,hbox3,hb3⟩:∃w3,wr.alloc (.cells #[.int .i64 r.kind,.int .i64 r.a,.int .i64 r.b,.int .i64 r.c] 91)=w3/\w3.heap.size=wr.heap.size+1/\w3.heap[wr.heap.size]? = some (.cells #[.int .i64 r.kind,.int .i64 r.a,.int .i64 r.b,.int .i64 r.c] 91 (0,0))/\Below wr.heap.size wr w3:=
    ⟨_,rfl,by simp,heap_alloc_new _ _,(Below.refl _ _).alloc (Nat.le_refl _) _⟩
   have x0:w3.cell? ⟨wr.heap.size,0,none⟩=some (.int .i64 r.kind):=by rw[cell_of_row _ _ _ _ _ _ hbox3]; rfl
   have x1:w3.cell? ⟨wr.heap.size,1,none⟩=some (.int .i64 r.a):=by rw[cell_of_row _ _ _ _ _ _ hbox3]; rfl
   have x2:w3.cell? ⟨wr.heap.size,2,none⟩=some (.int .i64 r.b):=by rw[cell_of_row _ _ _ _ _ _ hbox3]; rfl
   have x3:w3.cell? ⟨wr.heap.size,3,none⟩=some (.int .i64 r.c):=by rw[cell_of_row _ _ _ _ _ _ hbox3]; rfl
   have hn1:=HMod.out.hn;have HMod3:=zd (HMod.out.keep (hb3.mono hn1));have hszM:w.heap.size+1<=wr.heap.size:=by have:=HMod.out.hM; have:=HMod.out.hb; omega
   have HBl3:=zd (HBl.out.trans (hb3.mono hszM));have HBw3:=zd (HBw.out.trans (hb3.mono (by omega)));have HNm3:=zd (HNm.out.keep HBw3.out);have HW3:=zd hw3;have HB3:=zd hb3;have hlg:=HGood.out.len;clear hw3 hb3 hbox3 HMod;go_wp2_with fail;rw[HW3.out];clear HW3 d0 d1 d2 d3 hrunp hrunq;refine (qR r.kind f0 10 (by omega) (by omega) _).mono ?_;rintro e w4 ⟨rfl,rfl⟩;generalize qi r.kind 10=kk;have HTy:Hid (∀W',Below w3.heap.size w3 W'->Calls Tryz.prog 33 #[.slice pa pn pc,.int .i64 1] W' fun e w'=>jq W'.heap.size 1 e w'/\Below W'.heap.size W' w'):=fun W' hW'=>by
    have hb:=HBw3.out.trans (hW'.mono HBw3.out.size);exact V0 3 1 (by omega) (by omega) S lp _ W' (fun b h=>Nat.lt_of_lt_of_le (hS b h) hb.size) (vO (Keeps.below hb hS) HPart.out) (HNm.out.keep hb)
   by_cases hk2:kk<2
   ·have hk2':(kk:Int)<2:=by omega
    clear HTy HPart;go_wp2_with fail;refine Code.wp_mono ?_ (zdA _ _ _ _ _ _ _ _ _ _ _ _ _ _ _ _ _ _ _ _ _ _ _ _ _ _ _ _ _ _ _ _ _ _ _ _ _ _ _ _ _ _ _ _ _ _ _ _ _ _ _ _ _ _ _ _ _ _ _ _ _ _ _ _ _ _ _ _ _ _ _ _ _ _ _ _ _ _ _ _ _ _ _ _ _ _ _ _ _ _ _ _ _ _ _ _ _ _ _ _ _ _ _ _ _ _ _ _ _ _ _ _ _ _ _ _ _ _ _ _ _ _ _ _ _ _ _ _ _ _ _ (w.heap.size+1) wr.heap.size (w.heap.size+2) n1 r.a f1 mo vu vt vf w3 HMod3.out HNm3.out x1 hn1 (by omega) (by omega));intro e a w' h
    cases e with
    |normal=>
     obtain⟨v110,v111,v112,v113,v114,v115,v116,v117,rfl,s,v',⟨hs,_⟩,hmod',hbel'⟩:=h;have HX:Hid (∃(l':List Rw) (k':Nat) (mo:Mo) (vu vt vf:Value) (n1:Nat),ze S (qK w) 4 l' (.slice qa qn qc)/\k'<=9/\(Value.int .i64 ((k:Int)+1))=.int .i64 k'/\MoGood k' mo/\ModAt (w.heap.size+2) (w.heap.size+1) n1 mo vu vt vf w'/\Below (w.heap.size+1) w2 w'):=
      ⟨lq,k+1,_,_,_,_,_,HRest.out,by omega,by simp,HGood.out.use hs,hmod',HBl3.out.trans (hbel'.mono (Nat.le_refl _))⟩
     clear hmod' hbel' hs x0 x1 x2 x3;go_wp2_with fail;exact⟨HX.out,by simp[intOf]; omega⟩
    |_=>exact h.elim
   ·have hk2':¬(kk:Int)<2:=by omega
    by_cases hk5:kk<5
    ·have hk5':(kk:Int)<5:=by omega
     clear HPart;go_wp2_with fail;refine Code.wp_mono ?_ (zb9 _ _ _ _ _ _ _ _ _ _ _ _ _ _ _ _ _ _ _ _ _ _ _ _ _ _ _ _ _ _ _ _ _ _ _ _ _ _ _ _ _ _ _ _ _ _ _ _ _ _ _ _ _ _ _ _ _ _ _ _ _ _ _ _ _ _ _ _ _ _ _ _ _ _ _ _ _ _ _ _ _ _ _ _ _ _ _ _ _ _ _ _ _ _ _ _ _ _ _ _ _ _ _ _ _ _ _ _ _ _ _ _ _ _ _ _ _ _ _ _ _ _ _ _ _ _ _ _ _ _ (w.heap.size+1) wr.heap.size (w.heap.size+2) n1 pa pn pc r.a f1 mo vu vt vf w3 HMod3.out HNm3.out x1 hn1 (by omega) (by omega) HTy.out);intro e a w' h
     cases e with
     |normal=>
      obtain⟨v121,v122,v123,v124,v125,v126,v127,v128,v129,v130,v131,rfl,x,v',hx,hmod',hbel'⟩:=h;have HX:Hid (∃(l':List Rw) (k':Nat) (mo:Mo) (vu vt vf:Value) (n1:Nat),ze S (qK w) 4 l' (.slice qa qn qc)/\k'<=9/\(Value.int .i64 ((k:Int)+1))=.int .i64 k'/\MoGood k' mo/\ModAt (w.heap.size+2) (w.heap.size+1) n1 mo vu vt vf w'/\Below (w.heap.size+1) w2 w'):=
       ⟨lq,k+1,_,_,_,_,_,HRest.out,by omega,by simp,HGood.out.typ hx,hmod',HBl3.out.trans (hbel'.mono (Nat.le_refl _))⟩
      clear hmod' hbel' hx x0 x1 x2 x3 HTy;go_wp2_with fail;exact⟨HX.out,by simp[intOf]; omega⟩
     |_=>exact h.elim
    ·have hk5':¬(kk:Int)<5:=by omega
     obtain⟨h,hh,hh'⟩:∃h:Nat,(pn:Int) / 2=h/\h<=pn:=⟨pn / 2,by omega,by omega⟩
     have hpcap:pn<=pc:=by
      obtain⟨_,_,e,⟨h1,h2⟩,_⟩:=HPart.out;injection e with e1 e2 e3
      omega
     have hlp:lp.length=pn:=by
      obtain⟨_,_,e,_⟩:=HPart.out;injection e with e1 e2 e3
      exact e2.symm
     obtain⟨oa,oc,on,hruno,hparto⟩:∃oa oc on,(∀W,(Instr.slice 34 (.slice pa pn pc) (some (.int .i64 ((pn:Int) / 2))) none none).run Tryz.prog W=.ok (.slice oa on oc) W)/\ze S (qK w) 4 ((lp.drop h).take on) (.slice oa on oc):=by
      obtain⟨oa,oc,hsl,hp⟩:=yW HPart.out (i:=h) (j:=pn) hh' (by omega);exact⟨oa,oc,_,fun W=>by rw[Zs pa pn pc h _ hh hh' W,hsl],hp⟩
     have hparth:ze S (qK w) 4 (lp.take h) (.slice pa h pc):=zgn HPart.out (by omega);have HTyO:Hid (∀W',Below w3.heap.size w3 W'->Calls Tryz.prog 33 #[.slice oa on oc,.int .i64 1] W' fun e w'=>jq W'.heap.size 1 e w'/\Below W'.heap.size W' w'):=fun W' hW'=>by
      have hb:=HBw3.out.trans (hW'.mono HBw3.out.size);exact V0 3 1 (by omega) (by omega) S _ _ W' (fun b h=>Nat.lt_of_lt_of_le (hS b h) hb.size) (vO (Keeps.below hb hS) hparto) (HNm.out.keep hb)
     have HTyH:Hid (∀W',Below w3.heap.size w3 W'->Calls Tryz.prog 33 #[.slice pa h pc,.int .i64 1] W' fun e w'=>jq W'.heap.size 1 e w'/\Below W'.heap.size W' w'):=fun W' hW'=>by
      have hb:=HBw3.out.trans (hW'.mono HBw3.out.size);exact V0 3 1 (by omega) (by omega) S _ _ W' (fun b h=>Nat.lt_of_lt_of_le (hS b h) hb.size) (vO (Keeps.below hb hS) hparth) (HNm.out.keep hb)
     clear HTy hparto hparth;have hw3R:wr.heap.size<w3.heap.size:=by omega
     have HRaw:Hid (∀W,Below w3.heap.size w3 W->W.cell? ⟨wr.heap.size,2,none⟩=some (.int .i64 r.b)/\W.cell? ⟨wr.heap.size,3,none⟩=some (.int .i64 r.c)):=fun W hW=>
      ⟨(hW.cell (p:=⟨wr.heap.size,2,none⟩) hw3R).trans x2,(hW.cell (p:=⟨wr.heap.size,3,none⟩) hw3R).trans x3⟩
     go_wp2_with fail;refine Code.wp_mono ?_ (zdB _ _ _ _ _ _ _ _ _ _ _ _ _ _ _ _ _ _ _ _ _ _ _ _ _ _ _ _ _ _ _ _ _ _ _ _ _ _ _ _ _ _ _ _ _ _ _ _ _ _ _ _ _ _ _ _ _ _ _ _ _ _ _ _ _ _ _ _ _ _ _ _ _ _ _ _ _ _ _ _ _ _ _ _ _ _ _ _ _ _ _ _ _ _ _ _ _ _ _ _ _ _ _ _ _ _ _ _ _ _ _ _ _ _ _ _ _ _ _ _ _ _ _ _ _ _ _ _ _ _ _ wr.heap.size pa pn pc (by omega) oa on oc r.a f1 w3 HNm3.out x1 hw3R hruno HTyO.out);intro e a w4 hpost
     cases e with
     |normal=>
      obtain⟨F,v37,v38,v39,v40,v41,v42,v43,v44,v45,v46,rfl,s,t,k1,f1',x1',b1,m1,c1,hnew⟩:=hpost;have HNew:=zd hnew;obtain⟨e2,e3⟩:=HRaw.out _ hnew.below;have hz1:w4.cell? ⟨F,1,none⟩=some (.string ⟨#[]⟩):=by rw[cell_of_row _ _ _ _ _ _ hnew.box]; rfl
      have hz2:w4.frozen? ⟨F,1,none⟩=false:=frozen_of_row _ _ _ _ _ hnew.box;clear hnew x0 x1 x2 x3 HTyO hruno;go_wp2_with fail;refine (qR r.b f2 3 (by omega) (by omega) _).mono ?_;rintro e w5 ⟨rfl,rfl⟩;have hq3:=yG r.b 3 (by omega);generalize qi r.b 3=qb at *
      by_cases hqb:qb=0
      ·have hqb':((qb:Int)==0)=true:=by simp[hqb]
       have HGo:=zd (HNew.out.goVar (v:=⟨#[116]⟩) ⟨by decide,by decide⟩);have hsz4:(w4.setCell ⟨F,1,none⟩ (.string ⟨#[116]⟩)).heap.size=w4.heap.size:=zT _ _ _;have g3:(w4.setCell ⟨F,1,none⟩ (.string ⟨#[116]⟩)).cell? ⟨wr.heap.size,3,none⟩=some (.int .i64 r.c):=(HRaw.out _ HGo.out.below).2;clear hqb HNew;go_wp2_with fail;generalize w4.setCell ⟨F,1,none⟩ (.string ⟨#[116]⟩)=Wb at *;clear hz1 hz2 e2 e3;refine (qR r.c f3 3 (by omega) (by omega) _).mono ?_;rintro e w6 ⟨rfl,rfl⟩;have hqc:=yG r.c 3 (by omega);generalize qi r.c 3=q at *;generalize wr=wo at *;have hbase:=HGo.out.at0.room;have hloF:=HGo.out.lo;go_wp2_with fail
       go_loopw [55] (fun i wr=>∃(ps:List Fd) (pv:Value) (ys:List Value),ps.length<=q/\i=.int .i64 ps.length/\FnAt Wb.heap.size F s ⟨#[116]⟩ k1 f1' x1' (.slice b1 m1 c1) ps pv ys Wb wr) (fun i _=>q - (intOf i).toNat)
       case atStart=>exact⟨[],_,[],Nat.zero_le _,rfl,HGo.out.at0⟩
       case round=>
        obtain⟨ps,pv,ys,hpq,rfl,hat⟩:=hrel;have HAt:=zd hat;have HBf:=zd (hat.below HGo.out.below HGo.out.lo);clear hat
        by_cases hlt:ps.length<q
        ·have hlt':(ps.length:Int)<(q:Int):=by omega
         have HRow:Hid (∀b,pv.ownBlock=some b->b<wr.heap.size):=fun b hb=>(zk HAt.out.own b hb).2
         have hroom:=HAt.out.room;have hFb:=HAt.out.hF;go_wp2_with fail;refine (HTyH.out _ HBf.out).mono ?_;rintro e w7 ⟨⟨t2,k2,g2,y2,a2,m2,c2,rfl,hcs,hft⟩,hb7⟩;have hsz7:=hb7.size;have HAt7:=zd (HAt.out.keep hb7);have HCs:=zd hcs;have HFt:=zd hft;clear hcs hft hb7;have hv1:(w7.alloc (.cells #[.int .i64 k2,.string g2,.string y2,.slice a2 m2 c2] 67)).cell? ⟨F,1,none⟩=some (.string ⟨#[116]⟩):=by
          rw[World.cell?_alloc_old _ _ _ (by show F≠_; omega)]; exact HAt7.out.cells.1
         have HPar:Hid (∀(k3:Int) (g3 y3:ByteArray) (a3:Option Addr) (m3 c3:Nat) (t3:Ty),xJ (zm wr.heap.size w7) w7 t3 k3 g3 y3 (.slice a3 m3 c3)->
           FnAt Wb.heap.size F s ⟨#[116]⟩ k1 f1' x1' (.slice b1 m1 c1) ps pv ys Wb (w7.alloc (.cells #[.int .i64 k3,.string g3,.string y3,.slice a3 m3 c3] 67))/\xJ (vA Wb.heap.size pv (w7.alloc (.cells #[.int .i64 k3,.string g3,.string y3,.slice a3 m3 c3] 67))) (w7.alloc (.cells #[.int .i64 k3,.string g3,.string y3,.slice a3 m3 c3] 67)) t3 k3 g3 y3 (.slice a3 m3 c3)/\
           (w7.alloc (.cells #[.int .i64 k3,.string g3,.string y3,.slice a3 m3 c3] 67)).rangeAt w7.heap.size 0 [.int .i64 k3,.string g3,.string y3,.slice a3 m3 c3]):=fun k3 g3 y3 a3 m3 c3 t3 h3=>by
          refine⟨HAt7.out.keep ((Below.refl _ _).alloc (Nat.le_refl _) _),h3.keep ⟨fun b hb=>heap_alloc_old _ _ hb.2,fun b hb=>⟨by have:=hb.1; omega,by have:=hb.2; simp; omega,fun e=>by have:=HRow.out b e; have:=hb.1; omega⟩⟩,fun j u hj=>?_⟩;rw[cell_of_row _ _ _ _ _ _ (heap_alloc_new w7 (.cells #[.int .i64 k3,.string g3,.string y3,.slice a3 m3 c3] 67)),Nat.zero_add];simpa using hj
         have hown7:pv.ownBlock≠some w7.heap.size:=fun e=>by have:=HRow.out _ e; omega
         by_cases hj0:ps.length=0
         ·have hj0':((ps.length:Int)==0)=true:=by simp[hj0]
          clear hj0;obtain⟨hat8,hty8,hr8⟩:=HPar.out 4 ⟨#[]⟩ ⟨#[116]⟩ none 0 0 _ (Vn _ _ ⟨#[]⟩ ⟨#[116]⟩ (by decide) (by decide));have HS8:Hid ((w7.alloc (.cells #[.int .i64 4,.string ⟨#[]⟩,.string ⟨#[116]⟩,.slice none 0 0] 67)).heap.size=w7.heap.size+1):=by simp[Hid]
          clear HPar HAt HAt7;go_wp2_with fail;refine Code.wp_mono ?_ (QW _ _ _ _ _ _ _ _ _ _ _ _ _ _ _ _ _ _ _ _ _ _ _ _ _ _ _ _ _ _ _ _ _ _ _ _ _ _ _ _ _ _ _ _ _ _ _ _ _ _ _ _ _ _ _ _ _ _ _ _ _ _ _ _ _ _ _ _ _ _ _ _ _ _ _ _ _ _ _ _ _ _ _ _ _ _ _ _ _ _ _ _ _ _ _ _ _ _ _ _ _ _ _ _ _ _ _ _ _ _ _ _ _ _ _ _ _ _ _ _ _ _ _ _ _ _ _ _ _ _ ps.length (by omega) F w7.heap.size Wb.heap.size s ⟨#[116]⟩ k1 f1' x1' (.slice b1 m1 c1) ps (by omega) pv ys Wb _ hat8 _ _ _ _ _ _ _ hty8 (by decide) hr8 (by rw[HS8.out]; omega) (by omega) hown7);intro e a w9 hp9
          cases e with
          |normal=>
           obtain⟨v72,v73,v74,v75,v76,v77,v78,v79,v80,v81,v82,rfl,x,v',ys',hat9⟩:=hp9;have HAt9:=zd hat9;clear hat9 hat8 hty8 hr8;go_wp2_with fail;exact⟨⟨ps++[x],v',ys',by simp; omega,by simp,HAt9.out⟩,by simp[intOf]; omega⟩
          |_=>exact hp9.elim
         ·have hj0':((ps.length:Int)==0)=false:=by simp[hj0]
          clear hj0;obtain⟨hat8,hty8,hr8⟩:=HPar.out _ _ _ _ _ _ _ HCs.out;have HS8:Hid ((w7.alloc (.cells #[.int .i64 k2,.string g2,.string y2,.slice a2 m2 c2] 67)).heap.size=w7.heap.size+1):=by simp[Hid]
          clear HPar HAt HAt7;go_wp2_with fail;refine Code.wp_mono ?_ (QW _ _ _ _ _ _ _ _ _ _ _ _ _ _ _ _ _ _ _ _ _ _ _ _ _ _ _ _ _ _ _ _ _ _ _ _ _ _ _ _ _ _ _ _ _ _ _ _ _ _ _ _ _ _ _ _ _ _ _ _ _ _ _ _ _ _ _ _ _ _ _ _ _ _ _ _ _ _ _ _ _ _ _ _ _ _ _ _ _ _ _ _ _ _ _ _ _ _ _ _ _ _ _ _ _ _ _ _ _ _ _ _ _ _ _ _ _ _ _ _ _ _ _ _ _ _ _ _ _ _ ps.length (by omega) F w7.heap.size Wb.heap.size s ⟨#[116]⟩ k1 f1' x1' (.slice b1 m1 c1) ps (by omega) pv ys Wb _ hat8 _ _ _ _ _ _ _ hty8 HFt.out hr8 (by rw[HS8.out]; omega) (by omega) hown7);intro e a w9 hp9
          cases e with
          |normal=>
           obtain⟨v72,v73,v74,v75,v76,v77,v78,v79,v80,v81,v82,rfl,x,v',ys',hat9⟩:=hp9;have HAt9:=zd hat9;clear hat9 hat8 hty8 hr8;go_wp2_with fail;exact⟨⟨ps++[x],v',ys',by simp; omega,by simp,HAt9.out⟩,by simp[intOf]; omega⟩
          |_=>exact hp9.elim
        ·have hlt':¬(ps.length:Int)<(q:Int):=by omega
         have hp8:ps.length<=8:=by omega
         obtain⟨p1,p2,p3,rfl⟩:=(HAt.out.params hp8).slice;have hv1:=HAt.out.cells.1;have hv2:=HAt.out.cells.2.1;obtain⟨e2,e3⟩:=HRaw.out _ HBf.out;go_wp2_with fail;refine (qR _ (zgp _) 2 (by omega) (by omega) _).mono ?_;rintro e w8 ⟨rfl,rfl⟩;generalize qi (wrap64 (r.b.tdiv 3)) 2=qr at *
         by_cases hqr:qr=0
         ·have hqr':((qr:Int)==0)=true:=by simp[hqr]
          clear hqr;have of:=HAt.out.cells.2.2.2;obtain⟨o3,o4,o5,o6⟩:=HAt.out.cells.2.2.1;have hof3:=of 3;have hof4:=of 4;have hof5:=of 5;have hof6:=of 6;clear of;have hatx:=HAt.out.setRes 4 ⟨#[]⟩ ⟨#[116]⟩ (.slice none 0 0);generalize hCH:wr.setCells F 3 [.int .i64 4,.string ⟨#[]⟩,.string ⟨#[116]⟩,.slice none 0 0]=wx at hatx;have HCH2:Hid ((((wr.setCell ⟨F,3,none⟩ (.int .i64 4)).setCell ⟨F,4,none⟩ (.string ⟨#[]⟩)).setCell ⟨F,5,none⟩ (.string ⟨#[116]⟩)).setCell ⟨F,6,none⟩ (.slice none 0 0)=wx):=hCH;have HAtX:=zd hatx;have HBfX:=zd (hatx.below HGo.out.below HGo.out.lo);have hvx2:=HAtX.out.cells.2.1;clear hCH hatx;have HEx:Hid (Calls Tryz.prog 34 #[.slice pa pn pc,.slice p1 p2 p3,.int .i64 1] wx fun e w'=>xQ wx.heap.size 1 e w'/\Below wx.heap.size wx w'):=by
           have hb:=HBw3.out.trans (HBfX.out.mono HBw3.out.size);exact V1 4 1 (by omega) rfl (fun b=>b<wx.heap.size) lp _ ps _ wx (fun _ h=>h) (vO ⟨fun b hb'=>hb.block b (hS b hb'),fun b hb'=>Nat.lt_of_lt_of_le (hS b hb') hb.size⟩ HPart.out) ⟨zP ⟨fun _ _=>rfl,fun b hb'=>hb'.2⟩ (HAtX.out.params hp8),fun p hp=>(HAtX.out.ok p hp).1⟩ (HNm.out.keep hb)
          go_wp2_with (rw[HCH2.out]; clear HCH2 o3 o4 o5 o6 hof3 hof4 hof5 hof6);refine HEx.out.mono ?_;rintro e w10 ⟨⟨x,k3,q3,g3,y3,a3,m3,c3,rfl,hex,hxf⟩,hb10⟩;obtain⟨hbox11,hfu,hff,hb11⟩:=Kb (n1:=n1) HAtX.out hp8 hb10 HGo.out.lo HGo.out.below HGo.out.name HGo.out.var (Vn _ _ ⟨#[]⟩ ⟨#[116]⟩ (by decide) (by decide)) (by decide) hex hxf (by omega);have HAt10:=zd (HAtX.out.keep hb10);obtain⟨_,o7,o8,o9,o10,o11⟩:=HAt10.out.cells2;have of:=HAt10.out.cells.2.2.2;have hof7:=of 7;have hof8:=of 8;have hof9:=of 9;have hof10:=of 10;have hof11:=of 11;clear of;generalize hCH:w10.setCells F 7 [.int .i64 k3,.int .i64 q3,.string g3,.string y3,.slice a3 m3 c3]=w11 at hbox11 hfu hff hb11;have HCH:Hid (((((w10.setCell ⟨F,7,none⟩ (.int .i64 k3)).setCell ⟨F,8,none⟩ (.int .i64 q3)).setCell ⟨F,9,none⟩ (.string g3)).setCell ⟨F,10,none⟩ (.string y3)).setCell ⟨F,11,none⟩ (.slice a3 m3 c3)=w11):=hCH;clear hCH;have l0:w11.cell? ⟨F,0,none⟩=some (.string s):=by rw[cell_of_row _ _ _ _ _ _ hbox11]; rfl
          have l1:w11.cell? ⟨F,1,none⟩=some (.string ⟨#[116]⟩):=by rw[cell_of_row _ _ _ _ _ _ hbox11]; rfl
          have l2:w11.cell? ⟨F,2,none⟩=some (.slice p1 p2 p3):=by rw[cell_of_row _ _ _ _ _ _ hbox11]; rfl
          have l3:w11.cell? ⟨F,3,none⟩=some (.int .i64 4):=by rw[cell_of_row _ _ _ _ _ _ hbox11]; rfl
          have l4:w11.cell? ⟨F,4,none⟩=some (.string ⟨#[]⟩):=by rw[cell_of_row _ _ _ _ _ _ hbox11]; rfl
          have l5:w11.cell? ⟨F,5,none⟩=some (.string ⟨#[116]⟩):=by rw[cell_of_row _ _ _ _ _ _ hbox11]; rfl
          have l6:w11.cell? ⟨F,6,none⟩=some (.slice none 0 0):=by rw[cell_of_row _ _ _ _ _ _ hbox11]; rfl
          have l7:w11.cell? ⟨F,7,none⟩=some (.int .i64 k3):=by rw[cell_of_row _ _ _ _ _ _ hbox11]; rfl
          have l8:w11.cell? ⟨F,8,none⟩=some (.int .i64 q3):=by rw[cell_of_row _ _ _ _ _ _ hbox11]; rfl
          have l9:w11.cell? ⟨F,9,none⟩=some (.string g3):=by rw[cell_of_row _ _ _ _ _ _ hbox11]; rfl
          have l10:w11.cell? ⟨F,10,none⟩=some (.string y3):=by rw[cell_of_row _ _ _ _ _ _ hbox11]; rfl
          have l11:w11.cell? ⟨F,11,none⟩=some (.slice a3 m3 c3):=by rw[cell_of_row _ _ _ _ _ _ hbox11]; rfl
          have HMod11:=zd (HMod3.out.keep (hb11.mono (by omega)));obtain⟨yf,hyf⟩:=HMod11.out.fs;have hcM:w11.cell? ⟨w.heap.size+1,2,none⟩=some vf:=by rw[cell_of_row _ _ _ _ _ _ HMod11.out.mod]; rfl
          have HYf:=zd hyf;have HFu:=zd hfu;have HFf:=zd hff;have HBl11:=zd (HBl3.out.trans (hb11.mono (by omega)));have hsz11:=hb11.size;have hMW:w.heap.size+1<w11.heap.size:=by omega
          have hfl:mo.funcs.length<=9:=by omega
          have HHs:Hid ((w11.alloc (.cells #[.string s,.string ⟨#[116]⟩,.slice p1 p2 p3,.int .i64 4,.string ⟨#[]⟩,.string ⟨#[116]⟩,.slice none 0 0,.int .i64 k3,.int .i64 q3,.string g3,.string y3,.slice a3 m3 c3] 72)).heap.size=w11.heap.size+1):=by show _=_; simp
          have HBs:Hid (w.heap.size+2<=(w11.alloc (.cells #[.string s,.string ⟨#[116]⟩,.slice p1 p2 p3,.int .i64 4,.string ⟨#[]⟩,.string ⟨#[116]⟩,.slice none 0 0,.int .i64 k3,.int .i64 q3,.string g3,.string y3,.slice a3 m3 c3] 72)).heap.size):=by show _<=_; rw[HHs.out]; omega
          have HFarM:Hid (some (w.heap.size+1)≠vf.ownBlock):=fun h=>by have:=zk HYf.out.own _ h.symm; omega
          have HOld:Hid (∀k',k'<w11.heap.size->(w11.alloc (.cells #[.string s,.string ⟨#[116]⟩,.slice p1 p2 p3,.int .i64 4,.string ⟨#[]⟩,.string ⟨#[116]⟩,.slice none 0 0,.int .i64 k3,.int .i64 q3,.string g3,.string y3,.slice a3 m3 c3] 72)).heap[k']? = w11.heap[k']?):=fun k' hk'=>heap_alloc_old _ _ hk'
          have HNews:Hid (∀j u,([.string s,.string ⟨#[116]⟩,.slice p1 p2 p3,.int .i64 4,.string ⟨#[]⟩,.string ⟨#[116]⟩,.slice none 0 0,.int .i64 k3,.int .i64 q3,.string g3,.string y3,.slice a3 m3 c3]:List Value)[j]? = some u->(w11.alloc (.cells #[.string s,.string ⟨#[116]⟩,.slice p1 p2 p3,.int .i64 4,.string ⟨#[]⟩,.string ⟨#[116]⟩,.slice none 0 0,.int .i64 k3,.int .i64 q3,.string g3,.string y3,.slice a3 m3 c3] 72)).cell? ((⟨w11.heap.size,0,none⟩:Addr).add j)=some u):=
           World.news_of_block (cs:=#[.string s,.string ⟨#[116]⟩,.slice p1 p2 p3,.int .i64 4,.string ⟨#[]⟩,.string ⟨#[116]⟩,.slice none 0 0,.int .i64 k3,.int .i64 q3,.string g3,.string y3,.slice a3 m3 c3]) (t:=72) (fr:=(0,0)) (heap_alloc_new w11 _)
          have HOne:Hid (∀u∈([.string s,.string ⟨#[116]⟩,.slice p1 p2 p3,.int .i64 4,.string ⟨#[]⟩,.string ⟨#[116]⟩,.slice none 0 0,.int .i64 k3,.int .i64 q3,.string g3,.string y3,.slice a3 m3 c3]:List Value),u.oneCell'=true):=by
           intro u hu;simp at hu
           rcases hu with rfl|rfl|rfl|rfl|rfl|rfl|rfl|rfl|rfl|rfl|rfl|rfl <;> rfl
          have HC2:Hid (∀w2,(w11.alloc (.cells #[.string s,.string ⟨#[116]⟩,.slice p1 p2 p3,.int .i64 4,.string ⟨#[]⟩,.string ⟨#[116]⟩,.slice none 0 0,.int .i64 k3,.int .i64 q3,.string g3,.string y3,.slice a3 m3 c3] 72)).grownBy w2 vf.ownBlock->w2.cell? ⟨w.heap.size+1,2,none⟩=some vf/\w2.frozen? ⟨w.heap.size+1,2,none⟩=false):=by
           intro w2 hg;have hb1:w2.heap[w.heap.size+1]? = some (.cells #[vu,vt,vf] 41 (0,0)):=(hg.block (w.heap.size+1) (by rw[HHs.out]; omega) HFarM.out).trans ((HOld.out _ hMW).trans HMod11.out.mod);exact⟨by rw[cell_of_row w2 _ _ _ _ _ hb1]; rfl,Lib.frozen_of_heap hb1 2⟩
          have HGr:Hid (∀g' cap' w2,w2.ownsRow (w.heap.size+2) 72 12 (.slice (some ⟨g',0,none⟩) (mo.funcs.length+1) cap') (mo.funcs.length+1) (yf++[.string s,.string ⟨#[116]⟩,.slice p1 p2 p3,.int .i64 4,.string ⟨#[]⟩,.string ⟨#[116]⟩,.slice none 0 0,.int .i64 k3,.int .i64 q3,.string g3,.string y3,.slice a3 m3 c3])->(w11.alloc (.cells #[.string s,.string ⟨#[116]⟩,.slice p1 p2 p3,.int .i64 4,.string ⟨#[]⟩,.string ⟨#[116]⟩,.slice none 0 0,.int .i64 k3,.int .i64 q3,.string g3,.string y3,.slice a3 m3 c3] 72)).grownBy w2 vf.ownBlock->(vf.ownBlock=some g'\/g'=w11.heap.size+1)->GrewM (w.heap.size+2) (w.heap.size+1) 2 #[vu,vt,vf] 72 12 vf (.slice (some ⟨g',0,none⟩) (mo.funcs.length+1) cap') (mo.funcs.length+1) (yf++[.string s,.string ⟨#[116]⟩,.slice p1 p2 p3,.int .i64 4,.string ⟨#[]⟩,.string ⟨#[116]⟩,.slice none 0 0,.int .i64 k3,.int .i64 q3,.string g3,.string y3,.slice a3 m3 c3]) w11 (w2.setCell ⟨w.heap.size+1,2,none⟩ (.slice (some ⟨g',0,none⟩) (mo.funcs.length+1) cap'))):=fun g' cap' w2 ho hg hat=>
           xg (W0:=(w11.alloc (.cells #[.string s,.string ⟨#[116]⟩,.slice p1 p2 p3,.int .i64 4,.string ⟨#[]⟩,.string ⟨#[116]⟩,.slice none 0 0,.int .i64 k3,.int .i64 q3,.string g3,.string y3,.slice a3 m3 c3] 72))) (by omega) (by omega) (by rw[HHs.out]; omega) rfl rfl rfl HOld.out hg HMod11.out.mod HFarM.out ho (hat.imp_right (fun h=>by omega))
          obtain⟨i0,hi0,hz0,hz1,hz2⟩:=info_parts Vi;have HI0:=zd hi0;have HZ0:=zd hz0;have HZ1:=zd hz1;have HZ2:=zd hz2;have HOwn:=zd HYf.out.own;have HNl:Hid (mo.funcs.length+1<=maxLen):=by show _<=_; unfold maxLen; omega
          have HBy:Hid ((mo.funcs.length+1) * 192<=140737488355328):=by show _<=_; omega
          clear hex hxf hb10 HEx hbox11 hfu hff hb11 hyf hi0 hz0 hz1 hz2 hv1 hv2 e2 e3;go_wp2_with (first|(rw[HCH.out]; clear HCH o7 o8 o9 o10 o11 hof7 hof8 hof9 hof10 hof11)|(at_builtin; refine wpList_append_lies _ rfl _ _ 39 rfl (w.heap.size+2) 72 i0 _ 12 192 Tryz.underlying39 HI0.out HZ0.out HZ1.out HZ2.out rfl (by decide) vf mo.funcs.length yf rfl (HOwn.out.alloc _) ⟨w11.heap.size,0,none⟩ 1 1 [.string s,.string ⟨#[116]⟩,.slice p1 p2 p3,.int .i64 4,.string ⟨#[]⟩,.string ⟨#[116]⟩,.slice none 0 0,.int .i64 k3,.int .i64 q3,.string g3,.string y3,.slice a3 m3 c3] rfl rfl HNews.out HOne.out (by decide) HNl.out HBy.out HBs.out (w11.heap.size+1) HHs.out (fun g' cap' w12 hown2 hgrow hat hlt=>?_); obtain⟨hc2,hf2⟩:=HC2.out w12 hgrow; have HG:=zd (HGr.out g' cap' w12 hown2 hgrow hat); clear hown2 hgrow hat hlt));exact⟨⟨lq,k+1,_,_,_,_,_,HRest.out,by omega,by simp,HGood.out.fun HFf.out,HMod11.out.pushF HYf.out HG.out rfl HFu.out,HBl11.out.trans ((HG.out.below HYf.out.own (by omega) (by omega)).mono (Nat.le_refl _))⟩,by simp[intOf]; omega⟩
         ·have hqr':((qr:Int)==0)=false:=by simp[hqr]
          clear hqr;have HEx:Hid (Calls Tryz.prog 34 #[.slice pa pn pc,.slice p1 p2 p3,.int .i64 1] wr fun e w'=>xQ wr.heap.size 1 e w'/\Below wr.heap.size wr w'):=by
           have hb:=HBw3.out.trans (HBf.out.mono HBw3.out.size);exact V1 4 1 (by omega) rfl (fun b=>b<wr.heap.size) lp _ ps _ wr (fun _ h=>h) (vO ⟨fun b hb'=>hb.block b (hS b hb'),fun b hb'=>Nat.lt_of_lt_of_le (hS b hb') hb.size⟩ HPart.out) ⟨zP ⟨fun _ _=>rfl,fun b hb'=>hb'.2⟩ (HAt.out.params hp8),fun p hp=>(HAt.out.ok p hp).1⟩ (HNm.out.keep hb)
          go_wp2_with fail;refine HEx.out.mono ?_;rintro e w10 ⟨⟨x,k3,q3,g3,y3,a3,m3,c3,rfl,hex,hxf⟩,hb10⟩;obtain⟨hbox11,hfu,hff,hb11⟩:=Kb (n1:=n1) HAt.out hp8 hb10 HGo.out.lo HGo.out.below HGo.out.name HGo.out.var HGo.out.res HGo.out.ok hex hxf (by omega);have HAt10:=zd (HAt.out.keep hb10);obtain⟨_,o7,o8,o9,o10,o11⟩:=HAt10.out.cells2;have of:=HAt10.out.cells.2.2.2;have hof7:=of 7;have hof8:=of 8;have hof9:=of 9;have hof10:=of 10;have hof11:=of 11;clear of;generalize hCH:w10.setCells F 7 [.int .i64 k3,.int .i64 q3,.string g3,.string y3,.slice a3 m3 c3]=w11 at hbox11 hfu hff hb11;have HCH:Hid (((((w10.setCell ⟨F,7,none⟩ (.int .i64 k3)).setCell ⟨F,8,none⟩ (.int .i64 q3)).setCell ⟨F,9,none⟩ (.string g3)).setCell ⟨F,10,none⟩ (.string y3)).setCell ⟨F,11,none⟩ (.slice a3 m3 c3)=w11):=hCH;clear hCH;have l0:w11.cell? ⟨F,0,none⟩=some (.string s):=by rw[cell_of_row _ _ _ _ _ _ hbox11]; rfl
          have l1:w11.cell? ⟨F,1,none⟩=some (.string ⟨#[116]⟩):=by rw[cell_of_row _ _ _ _ _ _ hbox11]; rfl
          have l2:w11.cell? ⟨F,2,none⟩=some (.slice p1 p2 p3):=by rw[cell_of_row _ _ _ _ _ _ hbox11]; rfl
          have l3:w11.cell? ⟨F,3,none⟩=some (.int .i64 k1):=by rw[cell_of_row _ _ _ _ _ _ hbox11]; rfl
          have l4:w11.cell? ⟨F,4,none⟩=some (.string f1'):=by rw[cell_of_row _ _ _ _ _ _ hbox11]; rfl
          have l5:w11.cell? ⟨F,5,none⟩=some (.string x1'):=by rw[cell_of_row _ _ _ _ _ _ hbox11]; rfl
          have l6:w11.cell? ⟨F,6,none⟩=some (.slice b1 m1 c1):=by rw[cell_of_row _ _ _ _ _ _ hbox11]; rfl
          have l7:w11.cell? ⟨F,7,none⟩=some (.int .i64 k3):=by rw[cell_of_row _ _ _ _ _ _ hbox11]; rfl
          have l8:w11.cell? ⟨F,8,none⟩=some (.int .i64 q3):=by rw[cell_of_row _ _ _ _ _ _ hbox11]; rfl
          have l9:w11.cell? ⟨F,9,none⟩=some (.string g3):=by rw[cell_of_row _ _ _ _ _ _ hbox11]; rfl
          have l10:w11.cell? ⟨F,10,none⟩=some (.string y3):=by rw[cell_of_row _ _ _ _ _ _ hbox11]; rfl
          have l11:w11.cell? ⟨F,11,none⟩=some (.slice a3 m3 c3):=by rw[cell_of_row _ _ _ _ _ _ hbox11]; rfl
          have HMod11:=zd (HMod3.out.keep (hb11.mono (by omega)));obtain⟨yf,hyf⟩:=HMod11.out.fs;have hcM:w11.cell? ⟨w.heap.size+1,2,none⟩=some vf:=by rw[cell_of_row _ _ _ _ _ _ HMod11.out.mod]; rfl
          have HYf:=zd hyf;have HFu:=zd hfu;have HFf:=zd hff;have HBl11:=zd (HBl3.out.trans (hb11.mono (by omega)));have hsz11:=hb11.size;have hMW:w.heap.size+1<w11.heap.size:=by omega
          have hfl:mo.funcs.length<=9:=by omega
          have HHs:Hid ((w11.alloc (.cells #[.string s,.string ⟨#[116]⟩,.slice p1 p2 p3,.int .i64 k1,.string f1',.string x1',.slice b1 m1 c1,.int .i64 k3,.int .i64 q3,.string g3,.string y3,.slice a3 m3 c3] 72)).heap.size=w11.heap.size+1):=by show _=_; simp
          have HBs:Hid (w.heap.size+2<=(w11.alloc (.cells #[.string s,.string ⟨#[116]⟩,.slice p1 p2 p3,.int .i64 k1,.string f1',.string x1',.slice b1 m1 c1,.int .i64 k3,.int .i64 q3,.string g3,.string y3,.slice a3 m3 c3] 72)).heap.size):=by show _<=_; rw[HHs.out]; omega
          have HFarM:Hid (some (w.heap.size+1)≠vf.ownBlock):=fun h=>by have:=zk HYf.out.own _ h.symm; omega
          have HOld:Hid (∀k',k'<w11.heap.size->(w11.alloc (.cells #[.string s,.string ⟨#[116]⟩,.slice p1 p2 p3,.int .i64 k1,.string f1',.string x1',.slice b1 m1 c1,.int .i64 k3,.int .i64 q3,.string g3,.string y3,.slice a3 m3 c3] 72)).heap[k']? = w11.heap[k']?):=fun k' hk'=>heap_alloc_old _ _ hk'
          have HNews:Hid (∀j u,([.string s,.string ⟨#[116]⟩,.slice p1 p2 p3,.int .i64 k1,.string f1',.string x1',.slice b1 m1 c1,.int .i64 k3,.int .i64 q3,.string g3,.string y3,.slice a3 m3 c3]:List Value)[j]? = some u->(w11.alloc (.cells #[.string s,.string ⟨#[116]⟩,.slice p1 p2 p3,.int .i64 k1,.string f1',.string x1',.slice b1 m1 c1,.int .i64 k3,.int .i64 q3,.string g3,.string y3,.slice a3 m3 c3] 72)).cell? ((⟨w11.heap.size,0,none⟩:Addr).add j)=some u):=
           World.news_of_block (cs:=#[.string s,.string ⟨#[116]⟩,.slice p1 p2 p3,.int .i64 k1,.string f1',.string x1',.slice b1 m1 c1,.int .i64 k3,.int .i64 q3,.string g3,.string y3,.slice a3 m3 c3]) (t:=72) (fr:=(0,0)) (heap_alloc_new w11 _)
          have HOne:Hid (∀u∈([.string s,.string ⟨#[116]⟩,.slice p1 p2 p3,.int .i64 k1,.string f1',.string x1',.slice b1 m1 c1,.int .i64 k3,.int .i64 q3,.string g3,.string y3,.slice a3 m3 c3]:List Value),u.oneCell'=true):=by
           intro u hu;simp at hu
           rcases hu with rfl|rfl|rfl|rfl|rfl|rfl|rfl|rfl|rfl|rfl|rfl|rfl <;> rfl
          have HC2:Hid (∀w2,(w11.alloc (.cells #[.string s,.string ⟨#[116]⟩,.slice p1 p2 p3,.int .i64 k1,.string f1',.string x1',.slice b1 m1 c1,.int .i64 k3,.int .i64 q3,.string g3,.string y3,.slice a3 m3 c3] 72)).grownBy w2 vf.ownBlock->w2.cell? ⟨w.heap.size+1,2,none⟩=some vf/\w2.frozen? ⟨w.heap.size+1,2,none⟩=false):=by
           intro w2 hg;have hb1:w2.heap[w.heap.size+1]? = some (.cells #[vu,vt,vf] 41 (0,0)):=(hg.block (w.heap.size+1) (by rw[HHs.out]; omega) HFarM.out).trans ((HOld.out _ hMW).trans HMod11.out.mod);exact⟨by rw[cell_of_row w2 _ _ _ _ _ hb1]; rfl,Lib.frozen_of_heap hb1 2⟩
          have HGr:Hid (∀g' cap' w2,w2.ownsRow (w.heap.size+2) 72 12 (.slice (some ⟨g',0,none⟩) (mo.funcs.length+1) cap') (mo.funcs.length+1) (yf++[.string s,.string ⟨#[116]⟩,.slice p1 p2 p3,.int .i64 k1,.string f1',.string x1',.slice b1 m1 c1,.int .i64 k3,.int .i64 q3,.string g3,.string y3,.slice a3 m3 c3])->(w11.alloc (.cells #[.string s,.string ⟨#[116]⟩,.slice p1 p2 p3,.int .i64 k1,.string f1',.string x1',.slice b1 m1 c1,.int .i64 k3,.int .i64 q3,.string g3,.string y3,.slice a3 m3 c3] 72)).grownBy w2 vf.ownBlock->(vf.ownBlock=some g'\/g'=w11.heap.size+1)->GrewM (w.heap.size+2) (w.heap.size+1) 2 #[vu,vt,vf] 72 12 vf (.slice (some ⟨g',0,none⟩) (mo.funcs.length+1) cap') (mo.funcs.length+1) (yf++[.string s,.string ⟨#[116]⟩,.slice p1 p2 p3,.int .i64 k1,.string f1',.string x1',.slice b1 m1 c1,.int .i64 k3,.int .i64 q3,.string g3,.string y3,.slice a3 m3 c3]) w11 (w2.setCell ⟨w.heap.size+1,2,none⟩ (.slice (some ⟨g',0,none⟩) (mo.funcs.length+1) cap'))):=fun g' cap' w2 ho hg hat=>
           xg (W0:=(w11.alloc (.cells #[.string s,.string ⟨#[116]⟩,.slice p1 p2 p3,.int .i64 k1,.string f1',.string x1',.slice b1 m1 c1,.int .i64 k3,.int .i64 q3,.string g3,.string y3,.slice a3 m3 c3] 72))) (by omega) (by omega) (by rw[HHs.out]; omega) rfl rfl rfl HOld.out hg HMod11.out.mod HFarM.out ho (hat.imp_right (fun h=>by omega))
          obtain⟨i0,hi0,hz0,hz1,hz2⟩:=info_parts Vi;have HI0:=zd hi0;have HZ0:=zd hz0;have HZ1:=zd hz1;have HZ2:=zd hz2;have HOwn:=zd HYf.out.own;have HNl:Hid (mo.funcs.length+1<=maxLen):=by show _<=_; unfold maxLen; omega
          have HBy:Hid ((mo.funcs.length+1) * 192<=140737488355328):=by show _<=_; omega
          clear hex hxf hb10 HEx hbox11 hfu hff hb11 hyf hi0 hz0 hz1 hz2 hv1 hv2 e2 e3;go_wp2_with (first|(rw[HCH.out]; clear HCH o7 o8 o9 o10 o11 hof7 hof8 hof9 hof10 hof11)|(at_builtin; refine wpList_append_lies _ rfl _ _ 39 rfl (w.heap.size+2) 72 i0 _ 12 192 Tryz.underlying39 HI0.out HZ0.out HZ1.out HZ2.out rfl (by decide) vf mo.funcs.length yf rfl (HOwn.out.alloc _) ⟨w11.heap.size,0,none⟩ 1 1 [.string s,.string ⟨#[116]⟩,.slice p1 p2 p3,.int .i64 k1,.string f1',.string x1',.slice b1 m1 c1,.int .i64 k3,.int .i64 q3,.string g3,.string y3,.slice a3 m3 c3] rfl rfl HNews.out HOne.out (by decide) HNl.out HBy.out HBs.out (w11.heap.size+1) HHs.out (fun g' cap' w12 hown2 hgrow hat hlt=>?_); obtain⟨hc2,hf2⟩:=HC2.out w12 hgrow; have HG:=zd (HGr.out g' cap' w12 hown2 hgrow hat); clear hown2 hgrow hat hlt));exact⟨⟨lq,k+1,_,_,_,_,_,HRest.out,by omega,by simp,HGood.out.fun HFf.out,HMod11.out.pushF HYf.out HG.out rfl HFu.out,HBl11.out.trans ((HG.out.below HYf.out.own (by omega) (by omega)).mono (Nat.le_refl _))⟩,by simp[intOf]; omega⟩
      ·have hqb':((qb:Int)==0)=false:=by simp[hqb]
       have HGo:=zd HNew.out.go;clear hqb HNew hz1 hz2;go_wp2_with fail;clear e2 e3;generalize w4=Wb at *;refine (qR r.c f3 3 (by omega) (by omega) _).mono ?_;rintro e w6 ⟨rfl,rfl⟩;have hqc:=yG r.c 3 (by omega);generalize qi r.c 3=q at *;generalize wr=wo at *;have hbase:=HGo.out.at0.room;have hloF:=HGo.out.lo;go_wp2_with fail
       go_loopw [55] (fun i wr=>∃(ps:List Fd) (pv:Value) (ys:List Value),ps.length<=q/\i=.int .i64 ps.length/\FnAt Wb.heap.size F s ⟨#[]⟩ k1 f1' x1' (.slice b1 m1 c1) ps pv ys Wb wr) (fun i _=>q - (intOf i).toNat)
       case atStart=>exact⟨[],_,[],Nat.zero_le _,rfl,HGo.out.at0⟩
       case round=>
        obtain⟨ps,pv,ys,hpq,rfl,hat⟩:=hrel;have HAt:=zd hat;have HBf:=zd (hat.below HGo.out.below HGo.out.lo);clear hat
        by_cases hlt:ps.length<q
        ·have hlt':(ps.length:Int)<(q:Int):=by omega
         have HRow:Hid (∀b,pv.ownBlock=some b->b<wr.heap.size):=fun b hb=>(zk HAt.out.own b hb).2
         have hroom:=HAt.out.room;have hFb:=HAt.out.hF;go_wp2_with fail;refine (HTyH.out _ HBf.out).mono ?_;rintro e w7 ⟨⟨t2,k2,g2,y2,a2,m2,c2,rfl,hcs,hft⟩,hb7⟩;have hsz7:=hb7.size;have HAt7:=zd (HAt.out.keep hb7);have HCs:=zd hcs;have HFt:=zd hft;clear hcs hft hb7;have hv1:(w7.alloc (.cells #[.int .i64 k2,.string g2,.string y2,.slice a2 m2 c2] 67)).cell? ⟨F,1,none⟩=some (.string ⟨#[]⟩):=by
          rw[World.cell?_alloc_old _ _ _ (by show F≠_; omega)]; exact HAt7.out.cells.1
         have HPar:Hid (∀(k3:Int) (g3 y3:ByteArray) (a3:Option Addr) (m3 c3:Nat) (t3:Ty),xJ (zm wr.heap.size w7) w7 t3 k3 g3 y3 (.slice a3 m3 c3)->
           FnAt Wb.heap.size F s ⟨#[]⟩ k1 f1' x1' (.slice b1 m1 c1) ps pv ys Wb (w7.alloc (.cells #[.int .i64 k3,.string g3,.string y3,.slice a3 m3 c3] 67))/\xJ (vA Wb.heap.size pv (w7.alloc (.cells #[.int .i64 k3,.string g3,.string y3,.slice a3 m3 c3] 67))) (w7.alloc (.cells #[.int .i64 k3,.string g3,.string y3,.slice a3 m3 c3] 67)) t3 k3 g3 y3 (.slice a3 m3 c3)/\
           (w7.alloc (.cells #[.int .i64 k3,.string g3,.string y3,.slice a3 m3 c3] 67)).rangeAt w7.heap.size 0 [.int .i64 k3,.string g3,.string y3,.slice a3 m3 c3]):=fun k3 g3 y3 a3 m3 c3 t3 h3=>by
          refine⟨HAt7.out.keep ((Below.refl _ _).alloc (Nat.le_refl _) _),h3.keep ⟨fun b hb=>heap_alloc_old _ _ hb.2,fun b hb=>⟨by have:=hb.1; omega,by have:=hb.2; simp; omega,fun e=>by have:=HRow.out b e; have:=hb.1; omega⟩⟩,fun j u hj=>?_⟩;rw[cell_of_row _ _ _ _ _ _ (heap_alloc_new w7 (.cells #[.int .i64 k3,.string g3,.string y3,.slice a3 m3 c3] 67)),Nat.zero_add];simpa using hj
         have hown7:pv.ownBlock≠some w7.heap.size:=fun e=>by have:=HRow.out _ e; omega
         obtain⟨hat8,hty8,hr8⟩:=HPar.out _ _ _ _ _ _ _ HCs.out;have HS8:Hid ((w7.alloc (.cells #[.int .i64 k2,.string g2,.string y2,.slice a2 m2 c2] 67)).heap.size=w7.heap.size+1):=by simp[Hid]
         clear HPar HAt HAt7;go_wp2_with fail;refine Code.wp_mono ?_ (QW _ _ _ _ _ _ _ _ _ _ _ _ _ _ _ _ _ _ _ _ _ _ _ _ _ _ _ _ _ _ _ _ _ _ _ _ _ _ _ _ _ _ _ _ _ _ _ _ _ _ _ _ _ _ _ _ _ _ _ _ _ _ _ _ _ _ _ _ _ _ _ _ _ _ _ _ _ _ _ _ _ _ _ _ _ _ _ _ _ _ _ _ _ _ _ _ _ _ _ _ _ _ _ _ _ _ _ _ _ _ _ _ _ _ _ _ _ _ _ _ _ _ _ _ _ _ _ _ _ _ ps.length (by omega) F w7.heap.size Wb.heap.size s ⟨#[]⟩ k1 f1' x1' (.slice b1 m1 c1) ps (by omega) pv ys Wb _ hat8 _ _ _ _ _ _ _ hty8 HFt.out hr8 (by rw[HS8.out]; omega) (by omega) hown7);intro e a w9 hp9
         cases e with
         |normal=>
          obtain⟨v72,v73,v74,v75,v76,v77,v78,v79,v80,v81,v82,rfl,x,v',ys',hat9⟩:=hp9;have HAt9:=zd hat9;clear hat9 hat8 hty8 hr8;go_wp2_with fail;exact⟨⟨ps++[x],v',ys',by simp; omega,by simp,HAt9.out⟩,by simp[intOf]; omega⟩
         |_=>exact hp9.elim
        ·have hlt':¬(ps.length:Int)<(q:Int):=by omega
         have hp8:ps.length<=8:=by omega
         obtain⟨p1,p2,p3,rfl⟩:=(HAt.out.params hp8).slice;have hv1:=HAt.out.cells.1;have hv2:=HAt.out.cells.2.1;obtain⟨e2,e3⟩:=HRaw.out _ HBf.out;have HEx:Hid (Calls Tryz.prog 34 #[.slice pa pn pc,.slice p1 p2 p3,.int .i64 1] wr fun e w'=>xQ wr.heap.size 1 e w'/\Below wr.heap.size wr w'):=by
          have hb:=HBw3.out.trans (HBf.out.mono HBw3.out.size);exact V1 4 1 (by omega) rfl (fun b=>b<wr.heap.size) lp _ ps _ wr (fun _ h=>h) (vO ⟨fun b hb'=>hb.block b (hS b hb'),fun b hb'=>Nat.lt_of_lt_of_le (hS b hb') hb.size⟩ HPart.out) ⟨zP ⟨fun _ _=>rfl,fun b hb'=>hb'.2⟩ (HAt.out.params hp8),fun p hp=>(HAt.out.ok p hp).1⟩ (HNm.out.keep hb)
         go_wp2_with fail;refine HEx.out.mono ?_;rintro e w10 ⟨⟨x,k3,q3,g3,y3,a3,m3,c3,rfl,hex,hxf⟩,hb10⟩;obtain⟨hbox11,hfu,hff,hb11⟩:=Kb (n1:=n1) HAt.out hp8 hb10 HGo.out.lo HGo.out.below HGo.out.name HGo.out.var HGo.out.res HGo.out.ok hex hxf (by omega);have HAt10:=zd (HAt.out.keep hb10);obtain⟨_,o7,o8,o9,o10,o11⟩:=HAt10.out.cells2;have of:=HAt10.out.cells.2.2.2;have hof7:=of 7;have hof8:=of 8;have hof9:=of 9;have hof10:=of 10;have hof11:=of 11;clear of;generalize hCH:w10.setCells F 7 [.int .i64 k3,.int .i64 q3,.string g3,.string y3,.slice a3 m3 c3]=w11 at hbox11 hfu hff hb11;have HCH:Hid (((((w10.setCell ⟨F,7,none⟩ (.int .i64 k3)).setCell ⟨F,8,none⟩ (.int .i64 q3)).setCell ⟨F,9,none⟩ (.string g3)).setCell ⟨F,10,none⟩ (.string y3)).setCell ⟨F,11,none⟩ (.slice a3 m3 c3)=w11):=hCH;clear hCH;have l0:w11.cell? ⟨F,0,none⟩=some (.string s):=by rw[cell_of_row _ _ _ _ _ _ hbox11]; rfl
         have l1:w11.cell? ⟨F,1,none⟩=some (.string ⟨#[]⟩):=by rw[cell_of_row _ _ _ _ _ _ hbox11]; rfl
         have l2:w11.cell? ⟨F,2,none⟩=some (.slice p1 p2 p3):=by rw[cell_of_row _ _ _ _ _ _ hbox11]; rfl
         have l3:w11.cell? ⟨F,3,none⟩=some (.int .i64 k1):=by rw[cell_of_row _ _ _ _ _ _ hbox11]; rfl
         have l4:w11.cell? ⟨F,4,none⟩=some (.string f1'):=by rw[cell_of_row _ _ _ _ _ _ hbox11]; rfl
         have l5:w11.cell? ⟨F,5,none⟩=some (.string x1'):=by rw[cell_of_row _ _ _ _ _ _ hbox11]; rfl
         have l6:w11.cell? ⟨F,6,none⟩=some (.slice b1 m1 c1):=by rw[cell_of_row _ _ _ _ _ _ hbox11]; rfl
         have l7:w11.cell? ⟨F,7,none⟩=some (.int .i64 k3):=by rw[cell_of_row _ _ _ _ _ _ hbox11]; rfl
         have l8:w11.cell? ⟨F,8,none⟩=some (.int .i64 q3):=by rw[cell_of_row _ _ _ _ _ _ hbox11]; rfl
         have l9:w11.cell? ⟨F,9,none⟩=some (.string g3):=by rw[cell_of_row _ _ _ _ _ _ hbox11]; rfl
         have l10:w11.cell? ⟨F,10,none⟩=some (.string y3):=by rw[cell_of_row _ _ _ _ _ _ hbox11]; rfl
         have l11:w11.cell? ⟨F,11,none⟩=some (.slice a3 m3 c3):=by rw[cell_of_row _ _ _ _ _ _ hbox11]; rfl
         have HMod11:=zd (HMod3.out.keep (hb11.mono (by omega)));obtain⟨yf,hyf⟩:=HMod11.out.fs;have hcM:w11.cell? ⟨w.heap.size+1,2,none⟩=some vf:=by rw[cell_of_row _ _ _ _ _ _ HMod11.out.mod]; rfl
         have HYf:=zd hyf;have HFu:=zd hfu;have HFf:=zd hff;have HBl11:=zd (HBl3.out.trans (hb11.mono (by omega)));have hsz11:=hb11.size;have hMW:w.heap.size+1<w11.heap.size:=by omega
         have hfl:mo.funcs.length<=9:=by omega
         have HHs:Hid ((w11.alloc (.cells #[.string s,.string ⟨#[]⟩,.slice p1 p2 p3,.int .i64 k1,.string f1',.string x1',.slice b1 m1 c1,.int .i64 k3,.int .i64 q3,.string g3,.string y3,.slice a3 m3 c3] 72)).heap.size=w11.heap.size+1):=by show _=_; simp
         have HBs:Hid (w.heap.size+2<=(w11.alloc (.cells #[.string s,.string ⟨#[]⟩,.slice p1 p2 p3,.int .i64 k1,.string f1',.string x1',.slice b1 m1 c1,.int .i64 k3,.int .i64 q3,.string g3,.string y3,.slice a3 m3 c3] 72)).heap.size):=by show _<=_; rw[HHs.out]; omega
         have HFarM:Hid (some (w.heap.size+1)≠vf.ownBlock):=fun h=>by have:=zk HYf.out.own _ h.symm; omega
         have HOld:Hid (∀k',k'<w11.heap.size->(w11.alloc (.cells #[.string s,.string ⟨#[]⟩,.slice p1 p2 p3,.int .i64 k1,.string f1',.string x1',.slice b1 m1 c1,.int .i64 k3,.int .i64 q3,.string g3,.string y3,.slice a3 m3 c3] 72)).heap[k']? = w11.heap[k']?):=fun k' hk'=>heap_alloc_old _ _ hk'
         have HNews:Hid (∀j u,([.string s,.string ⟨#[]⟩,.slice p1 p2 p3,.int .i64 k1,.string f1',.string x1',.slice b1 m1 c1,.int .i64 k3,.int .i64 q3,.string g3,.string y3,.slice a3 m3 c3]:List Value)[j]? = some u->(w11.alloc (.cells #[.string s,.string ⟨#[]⟩,.slice p1 p2 p3,.int .i64 k1,.string f1',.string x1',.slice b1 m1 c1,.int .i64 k3,.int .i64 q3,.string g3,.string y3,.slice a3 m3 c3] 72)).cell? ((⟨w11.heap.size,0,none⟩:Addr).add j)=some u):=
          World.news_of_block (cs:=#[.string s,.string ⟨#[]⟩,.slice p1 p2 p3,.int .i64 k1,.string f1',.string x1',.slice b1 m1 c1,.int .i64 k3,.int .i64 q3,.string g3,.string y3,.slice a3 m3 c3]) (t:=72) (fr:=(0,0)) (heap_alloc_new w11 _)
         have HOne:Hid (∀u∈([.string s,.string ⟨#[]⟩,.slice p1 p2 p3,.int .i64 k1,.string f1',.string x1',.slice b1 m1 c1,.int .i64 k3,.int .i64 q3,.string g3,.string y3,.slice a3 m3 c3]:List Value),u.oneCell'=true):=by
          intro u hu;simp at hu
          rcases hu with rfl|rfl|rfl|rfl|rfl|rfl|rfl|rfl|rfl|rfl|rfl|rfl <;> rfl
         have HC2:Hid (∀w2,(w11.alloc (.cells #[.string s,.string ⟨#[]⟩,.slice p1 p2 p3,.int .i64 k1,.string f1',.string x1',.slice b1 m1 c1,.int .i64 k3,.int .i64 q3,.string g3,.string y3,.slice a3 m3 c3] 72)).grownBy w2 vf.ownBlock->w2.cell? ⟨w.heap.size+1,2,none⟩=some vf/\w2.frozen? ⟨w.heap.size+1,2,none⟩=false):=by
          intro w2 hg;have hb1:w2.heap[w.heap.size+1]? = some (.cells #[vu,vt,vf] 41 (0,0)):=(hg.block (w.heap.size+1) (by rw[HHs.out]; omega) HFarM.out).trans ((HOld.out _ hMW).trans HMod11.out.mod);exact⟨by rw[cell_of_row w2 _ _ _ _ _ hb1]; rfl,Lib.frozen_of_heap hb1 2⟩
         have HGr:Hid (∀g' cap' w2,w2.ownsRow (w.heap.size+2) 72 12 (.slice (some ⟨g',0,none⟩) (mo.funcs.length+1) cap') (mo.funcs.length+1) (yf++[.string s,.string ⟨#[]⟩,.slice p1 p2 p3,.int .i64 k1,.string f1',.string x1',.slice b1 m1 c1,.int .i64 k3,.int .i64 q3,.string g3,.string y3,.slice a3 m3 c3])->(w11.alloc (.cells #[.string s,.string ⟨#[]⟩,.slice p1 p2 p3,.int .i64 k1,.string f1',.string x1',.slice b1 m1 c1,.int .i64 k3,.int .i64 q3,.string g3,.string y3,.slice a3 m3 c3] 72)).grownBy w2 vf.ownBlock->(vf.ownBlock=some g'\/g'=w11.heap.size+1)->GrewM (w.heap.size+2) (w.heap.size+1) 2 #[vu,vt,vf] 72 12 vf (.slice (some ⟨g',0,none⟩) (mo.funcs.length+1) cap') (mo.funcs.length+1) (yf++[.string s,.string ⟨#[]⟩,.slice p1 p2 p3,.int .i64 k1,.string f1',.string x1',.slice b1 m1 c1,.int .i64 k3,.int .i64 q3,.string g3,.string y3,.slice a3 m3 c3]) w11 (w2.setCell ⟨w.heap.size+1,2,none⟩ (.slice (some ⟨g',0,none⟩) (mo.funcs.length+1) cap'))):=fun g' cap' w2 ho hg hat=>
          xg (W0:=(w11.alloc (.cells #[.string s,.string ⟨#[]⟩,.slice p1 p2 p3,.int .i64 k1,.string f1',.string x1',.slice b1 m1 c1,.int .i64 k3,.int .i64 q3,.string g3,.string y3,.slice a3 m3 c3] 72))) (by omega) (by omega) (by rw[HHs.out]; omega) rfl rfl rfl HOld.out hg HMod11.out.mod HFarM.out ho (hat.imp_right (fun h=>by omega))
         obtain⟨i0,hi0,hz0,hz1,hz2⟩:=info_parts Vi;have HI0:=zd hi0;have HZ0:=zd hz0;have HZ1:=zd hz1;have HZ2:=zd hz2;have HOwn:=zd HYf.out.own;have HNl:Hid (mo.funcs.length+1<=maxLen):=by show _<=_; unfold maxLen; omega
         have HBy:Hid ((mo.funcs.length+1) * 192<=140737488355328):=by show _<=_; omega
         clear hex hxf hb10 HEx hbox11 hfu hff hb11 hyf hi0 hz0 hz1 hz2 hv1 hv2 e2 e3;go_wp2_with (first|(rw[HCH.out]; clear HCH o7 o8 o9 o10 o11 hof7 hof8 hof9 hof10 hof11)|(at_builtin; refine wpList_append_lies _ rfl _ _ 39 rfl (w.heap.size+2) 72 i0 _ 12 192 Tryz.underlying39 HI0.out HZ0.out HZ1.out HZ2.out rfl (by decide) vf mo.funcs.length yf rfl (HOwn.out.alloc _) ⟨w11.heap.size,0,none⟩ 1 1 [.string s,.string ⟨#[]⟩,.slice p1 p2 p3,.int .i64 k1,.string f1',.string x1',.slice b1 m1 c1,.int .i64 k3,.int .i64 q3,.string g3,.string y3,.slice a3 m3 c3] rfl rfl HNews.out HOne.out (by decide) HNl.out HBy.out HBs.out (w11.heap.size+1) HHs.out (fun g' cap' w12 hown2 hgrow hat hlt=>?_); obtain⟨hc2,hf2⟩:=HC2.out w12 hgrow; have HG:=zd (HGr.out g' cap' w12 hown2 hgrow hat); clear hown2 hgrow hat hlt));exact⟨⟨lq,k+1,_,_,_,_,_,HRest.out,by omega,by simp,HGood.out.fun HFf.out,HMod11.out.pushF HYf.out HG.out rfl HFu.out,HBl11.out.trans ((HG.out.below HYf.out.own (by omega) (by omega)).mono (Nat.le_refl _))⟩,by simp[intOf]; omega⟩
     |_=>exact hpost.elim
end Go.Proofs.YtedpiamfpbdhoaaGreatDoor
