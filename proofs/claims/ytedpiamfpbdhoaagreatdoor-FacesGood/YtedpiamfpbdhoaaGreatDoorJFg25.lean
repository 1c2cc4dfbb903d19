import Derived.Test.YtedpiamfpbdhoaaGreatDoorJFg24
set_option maxHeartbeats 40000000
set_option maxRecDepth 100000
namespace Go.Proofs.YtedpiamfpbdhoaaGreatDoor
open Go.RowKit
theorem zfu (B:Nat) (x s:ByteArray) (k:Int) (f n:ByteArray) (a:Option Addr) (m cap:Nat) (w:World) (hp:w.cell? ⟨B,0,none⟩=some (.string s)) :
  Calls Tryz.prog 268 #[.agg #[.string x,.int .i64 k,.string f,.string n,.slice a m cap],.pointer (some ⟨B,0,none⟩)] w fun e w'=>e=.returned (.bool (sEq x s))/\Below w.heap.size w w':=by
 have hlt:B<w.heap.size:=World.block_lt_of_cell? _ _ hp;have HE:Hid (sEq x s=(x.toList==s.toList)):=rfl;go_enter Tryz.func268,Tryz.ntmps268
 go_wp2
 go_ret;exact⟨by rw[HE.out]; rfl,(Below.refl _ _).alloc (Nat.le_refl _) _⟩
theorem zfv (S:Nat->Prop) (l:List Fd) (s:ByteArray) (B:Nat) (v:Value) (w:World) (hS:∀b,S b->b<w.heap.size) (hv:ze S (qO S w) 5 l v) (hp:w.cell? ⟨B,0,none⟩=some (.string s)) :
  Calls Tryz.prog 246 #[v,.func (.func 268) #[] #[.pointer (some ⟨B,0,none⟩)]] w fun e w'=>e=.returned (.int .i64 (zC (fun k:Fd=>sEq k.name s) l))/\Below w.heap.size w w':=by
 have HV:=zd hv;have hlen:=hv.len;unfold maxLen at hlen;obtain⟨a,cap,rfl⟩:=hv.is;have HP:=zd hp;have HBl:=zd (World.block_lt_of_cell? _ _ hp);clear hv hp;go_enter Tryz.func246,Tryz.ntmps246;go_wp2_with fail
 go_loopw [8] (fun i wr=>∃j:Nat,j<=l.length/\i=.int .i64 j/\zj (fun k:Fd=>sEq k.name s) l=j+zj (fun k:Fd=>sEq k.name s) (l.drop j)/\Below w.heap.size w wr) (fun i _=>l.length - (intOf i).toNat)
 case atStart=>exact⟨0,Nat.zero_le _,rfl,(Nat.zero_add _).symm,Below.refl _ _⟩
 case round=>
  obtain⟨j,hj,rfl,hq,hbl⟩:=hrel;have HQ:=zd hq;have HBW:=zd hbl;clear hq
  by_cases hlt:j<l.length
  ·have hlt':(j:Int)<(l.length:Int):=by omega
   obtain⟨_,b,off,rfl,hb,hat⟩:=HV.out.at hlt;have hbk:=hS b hb;obtain⟨kd,fo,na,p1,p2,p3,a0,a1,a2,a3,a4,_⟩:=Zc hat;have d0:=(hbl.cell (p:=⟨b,off+j * 5,none⟩) hbk).trans a0;have d1:=(hbl.cell (p:=⟨b,off+j * 5+1,none⟩) hbk).trans a1;have d2:=(hbl.cell (p:=⟨b,off+j * 5+2,none⟩) hbk).trans a2;have d3:=(hbl.cell (p:=⟨b,off+j * 5+3,none⟩) hbk).trans a3;have d4:=(hbl.cell (p:=⟨b,off+j * 5+4,none⟩) hbk).trans a4;have HC:Hid (Calls Tryz.prog 268 #[.agg #[.string l[j].name,.int .i64 kd,.string fo,.string na,.slice p1 p2 p3],.pointer (some ⟨B,0,none⟩)] wr fun e w'=>e=.returned (.bool (sEq l[j].name s))/\Below wr.heap.size wr w'):=zfu B _ s _ _ _ _ _ _ wr ((hbl.cell HBl.out).trans HP.out);have HYes:Hid (sEq l[j].name s=true->zj (fun k:Fd=>sEq k.name s) l=j):=fun h=>by
    rw[HQ.out,jG hlt h]; rfl
   have HNo:Hid (sEq l[j].name s=false->zj (fun k:Fd=>sEq k.name s) l=(j+1)+zj (fun k:Fd=>sEq k.name s) (l.drop (j+1))):=fun h=>by
    rw[HQ.out,kq hlt h]; omega
   clear a0 a1 a2 a3 a4 hat HV hbl HQ
   skip
   generalize l[j].name=x at *
   cases hx:sEq x s with
   |true=>
    rw[hx] at HC;have HI:Hid (zC (fun k:Fd=>sEq k.name s) l=(j:Int)):=by
     show _=_;unfold zC;rw[HYes.out hx,if_pos hlt]
    clear HYes HNo hx;go_wp2_with fail;refine HC.out.mono ?_;rintro e w1 ⟨rfl,hb1⟩;have HB1:=zd (HBW.out.trans (hb1.mono HBW.out.size));clear hb1;go_wp2_with fail;go_ret;exact⟨by rw[HI.out]; rfl,HB1.out⟩
   |false=>
    rw[hx] at HC;have HN:=zd (HNo.out hx);clear HYes HNo hx;go_wp2_with fail;refine HC.out.mono ?_;rintro e w1 ⟨rfl,hb1⟩;have HB1:=zd (HBW.out.trans (hb1.mono HBW.out.size));clear hb1;go_wp2_with fail;exact⟨⟨j+1,by omega,by go_num,HN.out,HB1.out⟩,by simp[intOf]; omega⟩
  ·have hnl:¬(j:Int)<(l.length:Int):=by omega
   have HI:Hid (zC (fun k:Fd=>sEq k.name s) l=-1):=by
    show _=_;unfold zC;rw[HQ.out,jH (by omega),if_neg (by omega)]
   clear HV hbl HQ;go_wp2_with fail;go_ret;exact⟨by rw[HI.out]; rfl,HBW.out⟩
def xW (ps:List Fd) (ks:List ByteArray):List Kn:=(ps.zip ks).map fun x=>⟨x.1.name,x.2⟩
theorem zfw {ps:List Fd} {ks:List ByteArray} (h:ks.length=ps.length):(xW ps ks).length=ps.length:=by
 simp[xW,h]
theorem zgR {ps:List Fd} {ks:List ByteArray} {j:Nat} (hj:j<(xW ps ks).length) (hp:j<ps.length) (hk:j<ks.length):(xW ps ks)[j]=⟨ps[j].name,ks[j]⟩:=by
 simp[xW]
theorem JU (s:ByteArray):∀(ps:List Fd) (ks:List ByteArray),ks.length=ps.length->zj (fun k:Kn=>sEq k.name s) (xW ps ks)=zj (fun p:Fd=>sEq p.name s) ps
 |[],_,_=>by simp[xW,zj]
 |p::r,[],h=>by simp at h
 |p::r,k::q,h=>by
  have ih:=JU s r q (by simpa using h);show zj _ (⟨p.name,k⟩::xW r q)=_;rw[zj,zj,ih]
theorem zhL (S:Nat->Prop) (ps:List Fd) (ks:List ByteArray) (s:ByteArray) (v u:Value) (lB kB:Nat) (w:World) (hS:∀b,S b->b<w.heap.size) (hv:ze S (qO S w) 5 ps v) (hu:ze S (zG w) 1 ks u) (hl:ks.length=ps.length) (c0:w.cell? ⟨lB,0,none⟩=some v) (c1:w.cell? ⟨kB,0,none⟩=some u) :
  Calls Tryz.prog 267 #[.string s,.pointer (some ⟨lB,0,none⟩),.pointer (some ⟨kB,0,none⟩)] w fun e w'=>e=.returned (.tuple #[.string (xV (xW ps ks) s).1,.bool (decide ((xV (xW ps ks) s).2=0))])/\Below w.heap.size w w':=by
 have hlen:=hu.len;unfold maxLen at hlen;obtain⟨a,cap,rfl⟩:=hv.is;obtain⟨a2,cap2,rfl⟩:=hu.is;have hkl:=World.block_lt_of_cell? _ _ c0;have hkb:=World.block_lt_of_cell? _ _ c1;have hb:Below w.heap.size w (w.alloc (.cells #[.string s] 9)):=(Below.refl _ _).alloc (Nat.le_refl _) _;have HC:Hid (Calls Tryz.prog 246 #[.slice a ps.length cap,.func (.func 268) #[] #[.pointer (some ⟨w.heap.size,0,none⟩)]] (w.alloc (.cells #[.string s] 9)) fun e w'=>e=.returned (.int .i64 (zC (fun k:Fd=>sEq k.name s) ps))/\Below (w.alloc (.cells #[.string s] 9)).heap.size (w.alloc (.cells #[.string s] 9)) w'):=
  zfv S ps s w.heap.size _ _ (fun b hb'=>Nat.lt_of_lt_of_le (hS b hb') hb.size) (zP (Keeps.below hb hS) hv) (by simp[go_sem])
 have HB:=zd hb;have hpl:(xW ps ks).length=ps.length:=zfw hl;have hfi:=JU s ps ks hl
 by_cases hat:zj (fun k:Fd=>sEq k.name s) ps<ps.length
 ·have hk:zj (fun k:Fd=>sEq k.name s) ps<ks.length:=by omega
  have hI:zC (fun k:Fd=>sEq k.name s) ps=(zj (fun k:Fd=>sEq k.name s) ps:Int):=if_pos hat;have hR:xV (xW ps ks) s=(ks[zj (fun k:Fd=>sEq k.name s) ps],0):=by
   have h1:kV (xW ps ks) s<(xW ps ks).length:=by unfold kV; omega
   rw[Jk h1];have h2:(xW ps ks)[kV (xW ps ks) s].is=ks[zj (fun k:Fd=>sEq k.name s) ps]:=by
    have h3:(xW ps ks)[kV (xW ps ks) s]=⟨(ps[zj (fun k:Fd=>sEq k.name s) ps]'hat).name,ks[zj (fun k:Fd=>sEq k.name s) ps]⟩:=by
     have:=zgR (ps:=ps) (ks:=ks) (j:=zj (fun k:Fd=>sEq k.name s) ps) (by omega) hat hk;rw[<- this]
     congr 1
    rw[h3]
   rw[h2]
  have HR:=zd hR;obtain⟨_,b,off,rfl,hbS,hst,_⟩:=hu.at hk;have hbk:=hS b hbS;rw[hI] at HC;have d1:∀W,Below w.heap.size w W->W.cell? ⟨b,off+zj (fun k:Fd=>sEq k.name s) ps,none⟩=some (.string (ks[zj (fun k:Fd=>sEq k.name s) ps])):=fun W hW=>by
   rw[Nat.mul_one] at hst;exact (hW.cell (p:=⟨b,_,none⟩) hbk).trans hst
  have HD1:=zd d1;clear hst hI hR hfi hpl d1 hv hu hb;generalize ks[zj (fun k:Fd=>sEq k.name s) ps]=y at *;generalize zj (fun k:Fd=>sEq k.name s) ps=j at *;generalize xV (xW ps ks) s=r at *;have hj0:(0:Int)<=(j:Int):=by omega
  have hj1:¬(j:Int)<0:=by omega
  have hj2:(j:Int)<(ks.length:Int):=by omega
  go_enter Tryz.func267,Tryz.ntmps267;go_wp2_with fail;refine HC.out.mono ?_;rintro e w3 ⟨rfl,hb3⟩;have hb4:=HB.out.trans (hb3.mono HB.out.size);have e1:=(hb4.cell (p:=⟨kB,0,none⟩) hkb).trans c1;have e2:=HD1.out _ hb4;have HB4:=zd hb4;clear hb3 hb4;go_wp2_with fail;go_ret2;exact⟨by rw[HR.out]; rfl,HB4.out⟩
 ·have hI:zC (fun k:Fd=>sEq k.name s) ps=-1:=if_neg hat
  have HR:Hid (xV (xW ps ks) s=xq 6):=Yk (by unfold kV; omega);rw[hI] at HC;clear hI hfi hpl hv hu hb hat;generalize xV (xW ps ks) s=r at *;go_enter Tryz.func267,Tryz.ntmps267;go_wp2_with fail;refine HC.out.mono ?_;rintro e w3 ⟨rfl,hb3⟩;have HB4:=zd (HB.out.trans (hb3.mono HB.out.size));clear hb3;go_wp2_with fail;go_ret2;exact⟨by rw[HR.out]; rfl,HB4.out⟩
theorem zgS (S:Nat->Prop) (m:Mo) (l:List Im) (s:ByteArray) (vm v:Value) (w:World) (hS:∀b,S b->b<w.heap.size) (hm:qT S w m vm) (hv:ze S (yd S w) 4 l v) (hz:∀i∈l,zH i.face) :
  Calls Tryz.prog 270 #[vm,v,.string s] w fun e w'=>∃a n cap a2 n2 cap2,e=.returned (.tuple #[.agg #[.slice a n cap,.slice a2 n2 cap2],.bool (qY m.uses l s)])/\qC (fun b=>w.heap.size<=b/\b<w'.heap.size) w' (zK m.uses l s) (.agg #[.slice a n cap,.slice a2 n2 cap2])/\Below w.heap.size w w':=by
 have hz':=Zx (u:=m.uses) s hz;have HC:Hid (∀W,Below w.heap.size w W->Calls Tryz.prog 192 #[vm,v,.string s] W fun e w'=>∃a n cap a2 n2 cap2,e=.returned (.tuple #[.agg #[.slice a n cap,.slice a2 n2 cap2],.bool (qY m.uses l s)])/\qC S w' (zK m.uses l s) (.agg #[.slice a n cap,.slice a2 n2 cap2])/\Below W.heap.size W w'):=fun W hW=>by
  have hS':∀b,S b->b<W.heap.size:=fun b hb=>Nat.lt_of_lt_of_le (hS b hb) hW.size
  refine (Jf S m l s vm v W hS' (hm.keep (Keeps.below hW hS)) (qd (Keeps.below hW hS) hv)).mono ?_;rintro e w' ⟨a,n,cap,a2,n2,cap2,rfl,hf,hb⟩;exact⟨a,n,cap,a2,n2,cap2,rfl,hf.keep (Keeps.below hb hS'),hb⟩
 have HK:Hid (∀W u,w.heap.size<=W.heap.size->qC S W (zK m.uses l s) u->Calls Tryz.prog 16 #[u] W fun e w'=>∃a n cap a2 n2 cap2,e=.returned (.agg #[.slice a n cap,.slice a2 n2 cap2])/\Qs (fun b=>W.heap.size<=b/\b<w'.heap.size) w' (zK m.uses l s) (.slice a n cap) (.slice a2 n2 cap2)/\Below W.heap.size W w'):=fun W u hW hu=>
  KU S _ _ W (fun b hb=>Nat.lt_of_lt_of_le (hS b hb) hW) hu hz'
 obtain⟨vu,vt,vf,rfl,hu,ht,hf⟩:=hm;obtain⟨u1,u2,u3,rfl⟩:=hu.slice;obtain⟨t1,t2,t3,rfl⟩:=ht.slice;obtain⟨f1,f2,f3,rfl⟩:=hf.slice;obtain⟨a,n,cap,rfl⟩:=hv.slice;have HOut:Hid (qY m.uses l s=false->zK m.uses l s=⟨[],[]⟩):=fun h=>by
  by_cases hat:vJ l s<l.length
  ·cases hh:(l[vJ l s].there&&qu m.uses s) with
   |false=>exact (Kf hat hh).2
   |true=>rw[(Je hat hh).1] at h; cases h
  ·exact (Jd (by omega)).2
 clear hu ht hf hv hz hz';generalize zK m.uses l s=fc at *;generalize qY m.uses l s=ok at *;obtain⟨w2,hwe,hs2,hbel,q0,q1,f0,f1⟩:∃w2,(w.alloc (.cells #[.slice u1 u2 u3,.slice t1 t2 t3,.slice f1 f2 f3] 41)).alloc (.cells #[.slice none 0 0,.slice none 0 0] 26)=w2/\w2.heap.size=w.heap.size+2/\Below w.heap.size w w2/\
   w2.cell? ⟨w.heap.size+1,0,none⟩=some (.slice none 0 0)/\w2.cell? ⟨w.heap.size+1,1,none⟩=some (.slice none 0 0)/\w2.frozen? ⟨w.heap.size+1,0,none⟩=false/\w2.frozen? ⟨w.heap.size+1,1,none⟩=false:=
  ⟨_,rfl,by simp,((Below.refl _ _).alloc (Nat.le_refl _) _).alloc (by simp) _,by simp[go_sem],by simp[go_sem],by simp[go_sem],by simp[go_sem]⟩
 have HRes:Hid (∀W,Below w2.heap.size w2 W->(W.cell? ⟨w.heap.size+1,0,none⟩=some (.slice none 0 0)/\W.cell? ⟨w.heap.size+1,1,none⟩=some (.slice none 0 0))/\(W.frozen? ⟨w.heap.size+1,0,none⟩=false/\W.frozen? ⟨w.heap.size+1,1,none⟩=false)/\Below w.heap.size w W/\w.heap.size+1<W.heap.size):=fun W h=>by
  have hsz:=h.size;exact⟨⟨(h.cell (p:=⟨w.heap.size+1,0,none⟩) (by show w.heap.size+1<_; omega)).trans q0,(h.cell (p:=⟨w.heap.size+1,1,none⟩) (by show w.heap.size+1<_; omega)).trans q1⟩,
   ⟨(h.frozen (p:=⟨w.heap.size+1,0,none⟩) (by show w.heap.size+1<_; omega)).trans f0,(h.frozen (p:=⟨w.heap.size+1,1,none⟩) (by show w.heap.size+1<_; omega)).trans f1⟩,hbel.trans (h.mono hbel.size),by omega⟩
 have HSet:Hid (∀W u0 u1,Below w.heap.size w W->Below w.heap.size w ((W.setCell ⟨w.heap.size+1,0,none⟩ u0).setCell ⟨w.heap.size+1,1,none⟩ u1)):=fun W u0 u1 h=>
  (h.setCell (by show w.heap.size<=w.heap.size+1; omega) _).setCell (by show w.heap.size<=w.heap.size+1; omega) _
 have HFin:Hid (∀(W:World) (n:Nat) (p q u v:Value),w.heap.size+1<n->Qs (fun b=>n<=b/\b<W.heap.size) W fc p q->qC (fun b=>w.heap.size<=b/\b<((W.setCell ⟨w.heap.size+1,0,none⟩ u).setCell ⟨w.heap.size+1,1,none⟩ v).heap.size) ((W.setCell ⟨w.heap.size+1,0,none⟩ u).setCell ⟨w.heap.size+1,1,none⟩ v) fc (.agg #[p,q])):=fun W n p q u v hn h=>by
  have k1:=Za (B:=n) (g:=w.heap.size+1) (W:=W) (by omega) 0 u;have k2:=Za (B:=n) (g:=w.heap.size+1) (W:=W.setCell ⟨w.heap.size+1,0,none⟩ u) (by omega) 1 v;exact⟨p,q,rfl,((h.keep k1).keep k2).keep ⟨fun _ _=>rfl,fun b hb=>⟨by have:=hb.1; omega,hb.2⟩⟩⟩
 have HWe:=zd hwe;have HBel:=zd hbel;clear q0 q1 f0 f1 hwe hbel;go_enter Tryz.func270,Tryz.ntmps270;go_wp2_with fail;rw[HWe.out];refine (HC.out _ HBel.out).mono ?_;rintro e w3 ⟨b1,b2,b3,c1,c2,c3,rfl,hfc,hb3⟩;obtain⟨w4,rfl,p0,p1,hb4⟩:∃w4,w4=w3.alloc (.cells #[.slice b1 b2 b3,.slice c1 c2 c3] 26)/\w4.cell? ⟨w3.heap.size,0,none⟩=some (.slice b1 b2 b3)/\w4.cell? ⟨w3.heap.size,1,none⟩=some (.slice c1 c2 c3)/\Below w3.heap.size w3 w4:=
  ⟨_,rfl,by simp[go_sem],by simp[go_sem],(Below.refl _ _).alloc (Nat.le_refl _) _⟩
 have hb5:=hb3.trans (hb4.mono hb3.size);obtain⟨⟨g0,g1⟩,⟨g3,g4⟩,hb6,hl6⟩:=HRes.out _ hb5;have hS3:∀b,S b->b<w3.heap.size:=fun b hb=>by have:=hS b hb; have:=hb3.size; omega
 have HF4:=zd (hfc.keep (Keeps.below hb4 hS3));have HB5:=zd hb5;have HB6:=zd hb6;clear hb3 hb4 hb5 hb6 hfc hS3
 cases ok with
 |false=>
  have HE:=zd (HOut.out rfl);clear p0 p1 HC HK;go_wp2_with fail;exact bodyPost_ret (v:=.tuple #[.agg #[.slice none 0 0,.slice none 0 0],.bool false]) (by simp[results,Tryz.results270,go_sem,g0,g1]) rfl ⟨_,_,_,_,_,_,rfl,by rw[HE.out]; exact zaP _ _,HSet.out _ _ _ HB6.out⟩
 |true=>
  clear HC;go_wp2_with fail;refine (HK.out _ _ (by have:=HB6.out.size; omega) HF4.out).mono ?_;rintro e w7 ⟨d1,d2,d3,e1,e2,e3,rfl,hfc7,hb7⟩;have hl6':=hl6;have HF7:=zd hfc7;clear g0 g1 g3 g4;obtain⟨⟨g0,g1⟩,⟨g3,g4⟩,hb8,_⟩:=HRes.out _ (HB5.out.trans (hb7.mono HB5.out.size));have HB8:=zd hb8;clear hb7 hb8 hfc7 p0 p1;go_wp2_with fail;exact bodyPost_ret (v:=.tuple #[.agg #[.slice d1 d2 d3,.slice e1 e2 e3],.bool true]) (by simp[results,Tryz.results270,go_sem,g0,g1]) rfl ⟨_,_,_,_,_,_,rfl,HFin.out _ _ _ _ _ _ hl6' HF7.out,HSet.out _ _ _ HB8.out⟩
theorem zd1 {L B:Nat} {W:World} {g:Sg} {v:Value} (hL:L<=B) (h:qB (fun b=>B<b/\b<W.heap.size) W g v) (u0 u1 u2:Value) :
  qB (fun b=>L<=b/\b<(((W.setCell ⟨B,0,none⟩ u0).setCell ⟨B,1,none⟩ u1).setCell ⟨B,2,none⟩ u2).heap.size) (((W.setCell ⟨B,0,none⟩ u0).setCell ⟨B,1,none⟩ u1).setCell ⟨B,2,none⟩ u2) g v:=by
 refine h.keep ⟨fun b hb=>?_,fun b hb=>⟨?_,?_⟩⟩
 ·rw[Below.heap_setCell _ _ _ _ (by show b≠B; omega),Below.heap_setCell _ _ _ _ (by show b≠B; omega),Below.heap_setCell _ _ _ _ (by show b≠B; omega)]
 ·omega
 ·rw[xI,xI,xI]; exact hb.2
theorem zbP (S:Nat->Prop) (f:Fc) (s:ByteArray) (v:Value) (w:World) (hS:∀b,S b->b<w.heap.size) (hv:qC S w f v) (hz:zH f) :
  Calls Tryz.prog 271 #[v,.string s] w fun e w'=>∃a n cap,e=.returned (.tuple #[.agg #[.string (zJ f s).name,.slice a n cap,.string (zJ f s).result],.int .i64 (yx f s)])/\qB (fun b=>w.heap.size<=b/\b<w'.heap.size) w' (zJ f s) (.agg #[.string (zJ f s).name,.slice a n cap,.string (zJ f s).result])/\Below w.heap.size w w':=by
 obtain⟨vt,vf,rfl,ht,hf⟩:=hv;have HT:=zd hf;have hlen:=hf.len;unfold maxLen at hlen;obtain⟨a2,n2,cap2,rfl⟩:=ht.slice;obtain⟨a,cap,rfl⟩:=hf.is;obtain⟨w2,hwe,hs2,p0,p1,hbel,q0,q1,q2,f0,f1,f2⟩:∃w2,((w.alloc (.cells #[.slice a2 n2 cap2,.slice a f.funcs.length cap] 26)).alloc (.cells #[.string s] 9)).alloc (.cells #[.string ⟨#[]⟩,.slice none 0 0,.string ⟨#[]⟩] 76)=w2/\w2.heap.size=w.heap.size+3/\
   w2.cell? ⟨w.heap.size,1,none⟩=some (.slice a f.funcs.length cap)/\w2.cell? ⟨w.heap.size+1,0,none⟩=some (.string s)/\Below w.heap.size w w2/\
   w2.cell? ⟨w.heap.size+2,0,none⟩=some (.string ⟨#[]⟩)/\w2.cell? ⟨w.heap.size+2,1,none⟩=some (.slice none 0 0)/\w2.cell? ⟨w.heap.size+2,2,none⟩=some (.string ⟨#[]⟩)/\
   w2.frozen? ⟨w.heap.size+2,0,none⟩=false/\w2.frozen? ⟨w.heap.size+2,1,none⟩=false/\w2.frozen? ⟨w.heap.size+2,2,none⟩=false:=
  ⟨_,rfl,by simp,by simp[go_sem],by simp[go_sem],(((Below.refl _ _).alloc (Nat.le_refl _) _).alloc (by simp) _).alloc (by simp; omega) _,by simp[go_sem],by simp[go_sem],by simp[go_sem],by simp[go_sem],by simp[go_sem],by simp[go_sem]⟩
 have HC:Hid (Calls Tryz.prog 299 #[.slice a f.funcs.length cap,.func (.func 300) #[] #[.pointer (some ⟨w.heap.size+1,0,none⟩)]] w2 fun e w'=>e=.returned (.int .i64 (zC (fun k:Sg=>sEq k.name s) f.funcs))/\Below w2.heap.size w2 w'):=
  zgu S _ _ _ _ w2 (fun b hb=>Nat.lt_of_lt_of_le (hS b hb) hbel.size) (yO (Keeps.below hbel hS) hf) p1
 have HRes:Hid (∀W,Below w2.heap.size w2 W->(W.cell? ⟨w.heap.size,1,none⟩=some (.slice a f.funcs.length cap)/\Below w.heap.size w W/\w.heap.size+2<W.heap.size)/\(W.cell? ⟨w.heap.size+2,0,none⟩=some (.string ⟨#[]⟩)/\W.cell? ⟨w.heap.size+2,1,none⟩=some (.slice none 0 0)/\W.cell? ⟨w.heap.size+2,2,none⟩=some (.string ⟨#[]⟩))/\
   W.frozen? ⟨w.heap.size+2,0,none⟩=false/\W.frozen? ⟨w.heap.size+2,1,none⟩=false/\W.frozen? ⟨w.heap.size+2,2,none⟩=false):=fun W h=>by
  have hsz:=h.size;exact⟨⟨(h.cell (p:=⟨w.heap.size,1,none⟩) (by show w.heap.size<_; omega)).trans p0,hbel.trans (h.mono hbel.size),by omega⟩,
   ⟨(h.cell (p:=⟨w.heap.size+2,0,none⟩) (by show w.heap.size+2<_; omega)).trans q0,(h.cell (p:=⟨w.heap.size+2,1,none⟩) (by show w.heap.size+2<_; omega)).trans q1,(h.cell (p:=⟨w.heap.size+2,2,none⟩) (by show w.heap.size+2<_; omega)).trans q2⟩,
   (h.frozen (p:=⟨w.heap.size+2,0,none⟩) (by show w.heap.size+2<_; omega)).trans f0,(h.frozen (p:=⟨w.heap.size+2,1,none⟩) (by show w.heap.size+2<_; omega)).trans f1,(h.frozen (p:=⟨w.heap.size+2,2,none⟩) (by show w.heap.size+2<_; omega)).trans f2⟩
 have HSet:Hid (∀W u0 u1 u2,Below w.heap.size w W->Below w.heap.size w (((W.setCell ⟨w.heap.size+2,0,none⟩ u0).setCell ⟨w.heap.size+2,1,none⟩ u1).setCell ⟨w.heap.size+2,2,none⟩ u2)):=fun W u0 u1 u2 h=>
  ((h.setCell (by show w.heap.size<=w.heap.size+2; omega) _).setCell (by show w.heap.size<=w.heap.size+2; omega) _).setCell (by show w.heap.size<=w.heap.size+2; omega) _
 have HWe:=zd hwe;clear ht hf hwe hbel p0 p1 q0 q1 q2 f0 f1 f2
 by_cases hat:xG f s<f.funcs.length
 ·obtain⟨_,b,off,rfl,hb,hsg⟩:=HT.out.at hat
  have hbk:=hS b hb;obtain⟨r1,r2,r3,a0,a1,a3,hgi⟩:=XH hsg;have hI:zC (fun k:Sg=>sEq k.name s) f.funcs=(xG f s:Int):=if_pos hat;have HR:=zd (zgO hat rfl);have HCp:Hid (∀W,Below w.heap.size w W->w.heap.size+2<W.heap.size->Calls Tryz.prog 49 #[.agg #[.string f.funcs[xG f s].name,.slice r1 r2 r3,.string f.funcs[xG f s].result]] W fun e w'=>∃a n cap,e=.returned (.agg #[.string f.funcs[xG f s].name,.slice a n cap,.string f.funcs[xG f s].result])/\qB (fun b=>w.heap.size+2<b/\b<w'.heap.size) w' f.funcs[xG f s] (.agg #[.string f.funcs[xG f s].name,.slice a n cap,.string f.funcs[xG f s].result])/\Below W.heap.size W w'):=fun W hW h2=>by
   refine (YT S _ _ W (fun b hb=>Nat.lt_of_lt_of_le (hS b hb) hW.size) (hgi.keep (Keeps.below hW hS)) (hz.2.2 _ (List.getElem_mem hat))).mono ?_;rintro e w' ⟨a,n,cap,rfl,h3,h4⟩;obtain⟨_,_,z0,z1,_⟩:=hgi;exact⟨a,n,cap,rfl,⟨_,rfl,z0,z1,h3.imp (fun b hb=>⟨by omega,hb.2⟩) (fun _ _ _ _ _ h=>h)⟩,h4⟩
  have HA:Hid (∀W,Below w.heap.size w W->W.cell? ⟨b,off+xG f s * 3,none⟩=some (.string f.funcs[xG f s].name)/\W.cell? ⟨b,off+xG f s * 3+1,none⟩=some (.slice r1 r2 r3)/\W.cell? ⟨b,off+xG f s * 3+2,none⟩=some (.string f.funcs[xG f s].result)):=fun W h=>
   ⟨(h.cell (p:=⟨b,off+xG f s * 3,none⟩) hbk).trans a0,(h.cell (p:=⟨b,off+xG f s * 3+1,none⟩) hbk).trans a1,(h.cell (p:=⟨b,off+xG f s * 3+2,none⟩) hbk).trans a3⟩
  clear hz a0 a1 a3 HT hsg hgi;rw[hI] at HC;rw[HR.out.1,HR.out.2];clear HR hI;generalize f.funcs[xG f s]=g at *;generalize xG f s=k at *;have hk':(k:Int)<(f.funcs.length:Int):=by omega
  have hk0:¬(k:Int)<0:=by omega
  have hk1:(0:Int)<=(k:Int):=by omega
  go_enter Tryz.func271,Tryz.ntmps271;go_wp2_with fail;rw[HWe.out];refine HC.out.mono ?_;rintro e w3 ⟨rfl,hb3⟩;obtain⟨⟨c0,hb4,hl4⟩,-⟩:=HRes.out _ hb3;obtain⟨d0,d1,d2⟩:=HA.out _ hb4;have HB3:=zd hb3;have HB4:=zd hb4;clear hb3 hb4;go_wp2_with fail;refine (HCp.out _ HB4.out hl4).mono ?_;rintro e w5 ⟨a5,n5,cap5,rfl,hg5,hb5⟩;obtain⟨⟨_,hb6,_⟩,⟨g0,g1,g2⟩,g3,g4,g5⟩:=HRes.out _ (HB3.out.trans (hb5.mono HB3.out.size));have HG5:=zd hg5;have HB6:=zd hb6;clear hb5 hg5 hb6;go_wp2_with fail;exact bodyPost_ret (v:=.tuple #[.agg #[.string g.name,.slice a5 n5 cap5,.string g.result],.int .i64 0]) (by simp[results,Tryz.results271,go_sem,g0,g1,g2]) rfl ⟨a5,n5,cap5,rfl,zd1 (by omega) HG5.out _ _ _,HSet.out _ _ _ _ HB6.out⟩
 ·have hI:zC (fun k:Sg=>sEq k.name s) f.funcs=-1:=if_neg hat
  have HR:=zd (zcY (f:=f) (s:=s) (by omega));clear hz HT;rw[hI] at HC;rw[HR.out.1,HR.out.2];clear hI hat HR;go_enter Tryz.func271,Tryz.ntmps271;go_wp2_with fail;rw[HWe.out];refine HC.out.mono ?_;rintro e w3 ⟨rfl,hb3⟩;obtain⟨⟨c0,hb4,hl4⟩,⟨g0,g1,g2⟩,g3,g4,g5⟩:=HRes.out _ hb3;have HB4:=zd hb4;clear hb3 hb4;go_wp2_with fail;exact bodyPost_ret (v:=.tuple #[.agg #[.string ⟨#[]⟩,.slice none 0 0,.string ⟨#[]⟩],.int .i64 6]) (by simp[results,Tryz.results271,go_sem,g0,g1,g2]) rfl ⟨none,0,0,rfl,zcZ _ _,HSet.out _ _ _ _ HB4.out⟩
theorem zhM (S:Nat->Prop) (m:Mo) (l:List Im) (own:Fc) (o s:ByteArray) (u1 t1 f1 la o1 o4:Option Addr) (u2 u3 t2 t3 f2 f3 ln lc o2 o3 o5 o6:Nat) (oB mB lB:Nat) (w:World) (hS:∀b,S b->b<w.heap.size) (hm:qT S w m (.agg #[.slice u1 u2 u3,.slice t1 t2 t3,.slice f1 f2 f3])) (hl:ze S (yd S w) 4 l (.slice la ln lc)) (ho:qC S w own (.agg #[.slice o1 o2 o3,.slice o4 o5 o6])) (hz:∀i∈l,zH i.face) (hzo:zH own)
  (c0:w.cell? ⟨oB,0,none⟩=some (.slice o1 o2 o3)) (c1:w.cell? ⟨oB,1,none⟩=some (.slice o4 o5 o6)) (c2:w.cell? ⟨mB,0,none⟩=some (.slice u1 u2 u3)) (c3:w.cell? ⟨mB,1,none⟩=some (.slice t1 t2 t3)) (c4:w.cell? ⟨mB,2,none⟩=some (.slice f1 f2 f3)) (c5:w.cell? ⟨lB,0,none⟩=some (.slice la ln lc)) :
  Calls Tryz.prog 269 #[.string o,.string s,.pointer (some ⟨oB,0,none⟩),.pointer (some ⟨mB,0,none⟩),.pointer (some ⟨lB,0,none⟩)] w fun e w'=>∃a n cap,e=.returned (.tuple #[.agg #[.string (zJ (vy m l own o) s).name,.slice a n cap,.string (zJ (vy m l own o) s).result],.bool (yx (vy m l own o) s==0)])/\qB (fun b=>b<w'.heap.size) w' (zJ (vy m l own o) s) (.agg #[.string (zJ (vy m l own o) s).name,.slice a n cap,.string (zJ (vy m l own o) s).result])/\Below w.heap.size w w':=by
 have l0:=World.block_lt_of_cell? _ _ c0;have l2:=World.block_lt_of_cell? _ _ c2;have l5:=World.block_lt_of_cell? _ _ c5;obtain⟨w1,hwe,hs1,hbel,q0,q1,q2,q3,q4,q5,g2,g3,r0,r1,r2,r3,r4,r5⟩:∃w1,(w.alloc (.cells #[.string ⟨#[]⟩,.slice none 0 0,.string ⟨#[]⟩] 76)).alloc (.cells #[.slice o1 o2 o3,.slice o4 o5 o6] 26)=w1/\w1.heap.size=w.heap.size+2/\Below w.heap.size w w1/\w1.cell? ⟨mB,0,none⟩=some (.slice u1 u2 u3)/\w1.cell? ⟨mB,1,none⟩=some (.slice t1 t2 t3)/\w1.cell? ⟨mB,2,none⟩=some (.slice f1 f2 f3)/\w1.cell? ⟨lB,0,none⟩=some (.slice la ln lc)/\w1.cell? ⟨w.heap.size+1,0,none⟩=some (.slice o1 o2 o3)/\w1.cell? ⟨w.heap.size+1,1,none⟩=some (.slice o4 o5 o6)/\w1.frozen? ⟨w.heap.size+1,0,none⟩=false/\w1.frozen? ⟨w.heap.size+1,1,none⟩=false/\
   w1.cell? ⟨w.heap.size,0,none⟩=some (.string ⟨#[]⟩)/\w1.cell? ⟨w.heap.size,1,none⟩=some (.slice none 0 0)/\w1.cell? ⟨w.heap.size,2,none⟩=some (.string ⟨#[]⟩)/\w1.frozen? ⟨w.heap.size,0,none⟩=false/\w1.frozen? ⟨w.heap.size,1,none⟩=false/\w1.frozen? ⟨w.heap.size,2,none⟩=false:=by
  have hb:Below w.heap.size w ((w.alloc (.cells #[.string ⟨#[]⟩,.slice none 0 0,.string ⟨#[]⟩] 76)).alloc (.cells #[.slice o1 o2 o3,.slice o4 o5 o6] 26)):=((Below.refl _ _).alloc (Nat.le_refl _) _).alloc (by simp) _;exact⟨_,rfl,by simp,hb,(hb.cell (p:=⟨mB,0,none⟩) l2).trans c2,(hb.cell (p:=⟨mB,1,none⟩) l2).trans c3,(hb.cell (p:=⟨mB,2,none⟩) l2).trans c4,(hb.cell (p:=⟨lB,0,none⟩) l5).trans c5,by simp[go_sem],by simp[go_sem],by simp[go_sem],by simp[go_sem],by simp[go_sem],by simp[go_sem],by simp[go_sem],by simp[go_sem],by simp[go_sem],by simp[go_sem]⟩
 have HWe:=zd hwe;have HB1:=zd hbel;have lw1:w.heap.size<w1.heap.size:=by omega
 have lw2:w.heap.size+1<w1.heap.size:=by omega
 have HRes:Hid (∀W,Below w1.heap.size w1 W->(W.cell? ⟨w.heap.size,0,none⟩=some (.string ⟨#[]⟩)/\W.cell? ⟨w.heap.size,1,none⟩=some (.slice none 0 0)/\W.cell? ⟨w.heap.size,2,none⟩=some (.string ⟨#[]⟩))/\(W.frozen? ⟨w.heap.size,0,none⟩=false/\W.frozen? ⟨w.heap.size,1,none⟩=false/\W.frozen? ⟨w.heap.size,2,none⟩=false)/\Below w.heap.size w W):=fun W h=>
  ⟨⟨(h.cell (p:=⟨w.heap.size,0,none⟩) lw1).trans r0,(h.cell (p:=⟨w.heap.size,1,none⟩) lw1).trans r1,(h.cell (p:=⟨w.heap.size,2,none⟩) lw1).trans r2⟩,⟨(h.frozen (p:=⟨w.heap.size,0,none⟩) lw1).trans r3,(h.frozen (p:=⟨w.heap.size,1,none⟩) lw1).trans r4,(h.frozen (p:=⟨w.heap.size,2,none⟩) lw1).trans r5⟩,hbel.trans (h.mono hbel.size)⟩
 have HSet:Hid (∀W u0 u1 u2,Below w.heap.size w W->Below w.heap.size w (((W.setCell ⟨w.heap.size,0,none⟩ u0).setCell ⟨w.heap.size,1,none⟩ u1).setCell ⟨w.heap.size,2,none⟩ u2)):=fun W u0 u1 u2 h=>
  ((h.setCell (Nat.le_refl _) _).setCell (Nat.le_refl _) _).setCell (Nat.le_refl _) _
 have HFin:Hid (∀(W:World) (sg:Sg) (v u0 u1 u2:Value),qB (fun b=>w1.heap.size<=b/\b<W.heap.size) W sg v->qB (fun b=>b<(((W.setCell ⟨w.heap.size,0,none⟩ u0).setCell ⟨w.heap.size,1,none⟩ u1).setCell ⟨w.heap.size,2,none⟩ u2).heap.size) (((W.setCell ⟨w.heap.size,0,none⟩ u0).setCell ⟨w.heap.size,1,none⟩ u1).setCell ⟨w.heap.size,2,none⟩ u2) sg v):=fun W sg v u0 u1 u2 h=>
  zfr (h.keep ⟨fun _ _=>rfl,fun b hb=>⟨by omega,hb.2⟩⟩) u0 u1 u2
 cases he:o.toList.isEmpty with
 |true=>
  have hf:vy m l own o=own:=if_pos (zid he);rw[hf];have HF:Hid (Calls Tryz.prog 271 #[.agg #[.slice o1 o2 o3,.slice o4 o5 o6],.string s] w1 fun e w'=>∃a n cap,e=.returned (.tuple #[.agg #[.string (zJ own s).name,.slice a n cap,.string (zJ own s).result],.int .i64 (yx own s)])/\qB (fun b=>w1.heap.size<=b/\b<w'.heap.size) w' (zJ own s) (.agg #[.string (zJ own s).name,.slice a n cap,.string (zJ own s).result])/\Below w1.heap.size w1 w'):=
   zbP S own s _ w1 (fun b hb=>Nat.lt_of_lt_of_le (hS b hb) hbel.size) (ho.keep (Keeps.below hbel hS)) hzo
  clear hm hl ho hz hzo hf hwe hbel hs1 q0 q1 q2 q3 q4 q5 g2 g3 r0 r1 r2 r3 r4 r5;generalize yx own s=fe at *;generalize hsg:zJ own s=sg at *;generalize hsn:sg.name=sn at *;generalize hsr:sg.result=sr at *;have HSn:=zd hsn;have HSr:=zd hsr;clear hsg hsn hsr;go_enter Tryz.func269,Tryz.ntmps269;go_wp2_with fail;rw[HWe.out];refine HF.out.mono ?_;rintro e w3 ⟨a,n,cap,rfl,hsg,hb3⟩;obtain⟨W4,HW4,hb4,hs4,e0,e1,e2⟩:∃W4,Hid (w3.alloc (.cells #[.string sn,.slice a n cap,.string sr] 76)=W4)/\Below w3.heap.size w3 W4/\W4.heap.size=w3.heap.size+1/\W4.cell? ⟨w3.heap.size,0,none⟩=some (.string sn)/\W4.cell? ⟨w3.heap.size,1,none⟩=some (.slice a n cap)/\W4.cell? ⟨w3.heap.size,2,none⟩=some (.string sr):=
   ⟨_,rfl,(Below.refl _ _).alloc (Nat.le_refl _) _,by simp,by simp[go_sem],by simp[go_sem],by simp[go_sem]⟩
  have HSg:=zd (hsg.keep (S':=fun b=>w1.heap.size<=b/\b<W4.heap.size) ⟨fun b hb=>hb4.block b hb.2,fun b hb=>⟨hb.1,Nat.lt_of_lt_of_le hb.2 hb4.size⟩⟩);obtain⟨⟨x0,x1,x2⟩,⟨y0,y1,y2⟩,hb5⟩:=HRes.out _ (hb3.trans (hb4.mono hb3.size));have HB5:=zd hb5;have hw3:w.heap.size<w3.heap.size:=Nat.lt_of_lt_of_le lw1 hb3.size;clear hsg hb3 hb4 hs4 hb5 HF;go_wp2_with (first|(rw[HW4.out]; clear HW4)|fail);refine bodyPost_ret (v:=.tuple #[.agg #[.string sn,.slice a n cap,.string sr],.bool (fe==0)]) (by simp[results,Tryz.results269,go_sem,x0,x1,x2]) rfl ⟨a,n,cap,rfl,?_,HSet.out _ _ _ _ HB5.out⟩;exact HFin.out _ _ _ _ _ _ HSg.out
 |false=>
  have hf:vy m l own o=zK m.uses l o:=if_neg (by rw[zie he]; decide);rw[hf];have hzf:=Zx (u:=m.uses) o hz;have HFo:Hid (Calls Tryz.prog 270 #[.agg #[.slice u1 u2 u3,.slice t1 t2 t3,.slice f1 f2 f3],.slice la ln lc,.string o] w1 fun e w'=>∃a n cap a2 n2 cap2,e=.returned (.tuple #[.agg #[.slice a n cap,.slice a2 n2 cap2],.bool (qY m.uses l o)])/\qC (fun b=>w1.heap.size<=b/\b<w'.heap.size) w' (zK m.uses l o) (.agg #[.slice a n cap,.slice a2 n2 cap2])/\Below w1.heap.size w1 w'):=
   zgS S m l o _ _ w1 (fun b hb=>Nat.lt_of_lt_of_le (hS b hb) hbel.size) (hm.keep (Keeps.below hbel hS)) (qd (Keeps.below hbel hS) hl) hz
  have HF:Hid (∀W v,qC (fun b=>b<W.heap.size) W (zK m.uses l o) v->Calls Tryz.prog 271 #[v,.string s] W fun e w'=>∃a n cap,e=.returned (.tuple #[.agg #[.string (zJ (zK m.uses l o) s).name,.slice a n cap,.string (zJ (zK m.uses l o) s).result],.int .i64 (yx (zK m.uses l o) s)])/\qB (fun b=>W.heap.size<=b/\b<w'.heap.size) w' (zJ (zK m.uses l o) s) (.agg #[.string (zJ (zK m.uses l o) s).name,.slice a n cap,.string (zJ (zK m.uses l o) s).result])/\Below W.heap.size W w'):=fun W v h=>
   zbP (fun b=>b<W.heap.size) (zK m.uses l o) s v W (fun _ h=>h) h hzf
  have HNil:Hid (qY m.uses l o=false->zJ (zK m.uses l o) s=⟨⟨#[]⟩,[],⟨#[]⟩⟩/\yx (zK m.uses l o) s=6):=fun h=>by
   have h2:zK m.uses l o=⟨[],[]⟩:=by
    by_cases hat:vJ l o<l.length
    ·cases hh:(l[vJ l o].there&&qu m.uses o) with
     |false=>exact (Kf hat hh).2
     |true=>rw[(Je hat hh).1] at h; cases h
    ·exact (Jd (by omega)).2
   rw[h2];exact zcY (f:=⟨[],[]⟩) (s:=s) (Nat.zero_le _)
  have HBox:Hid (∀W,Below w1.heap.size w1 W->(W.cell? ⟨w.heap.size+1,0,none⟩=some (.slice o1 o2 o3)/\W.cell? ⟨w.heap.size+1,1,none⟩=some (.slice o4 o5 o6))/\(W.frozen? ⟨w.heap.size+1,0,none⟩=false/\W.frozen? ⟨w.heap.size+1,1,none⟩=false)):=fun W h=>
   ⟨⟨(h.cell (p:=⟨w.heap.size+1,0,none⟩) lw2).trans q4,(h.cell (p:=⟨w.heap.size+1,1,none⟩) lw2).trans q5⟩,⟨(h.frozen (p:=⟨w.heap.size+1,0,none⟩) lw2).trans g2,(h.frozen (p:=⟨w.heap.size+1,1,none⟩) lw2).trans g3⟩⟩
  clear hm hl ho hz hzo hf hwe hbel hs1 q4 q5 g2 g3 hzf c2 c3 c4 c5 r0 r1 r2 r3 r4 r5;generalize zK m.uses l o=fc at *;generalize qY m.uses l o=ok at *;generalize yx fc s=fe at *;generalize hsg:zJ fc s=sg at *;clear hsg;generalize hsn:sg.name=sn at *;generalize hsr:sg.result=sr at *;have HSn:=zd hsn;have HSr:=zd hsr;clear hsn hsr;go_enter Tryz.func269,Tryz.ntmps269;go_wp2_with (first|(rw[HWe.out]; clear HWe)|fail);refine HFo.out.mono ?_;rintro e w3 ⟨a,n,cap,a2,n2,cap2,rfl,hfc,hb3⟩;obtain⟨⟨g0,g1⟩,⟨g2,g3⟩⟩:=HBox.out _ hb3;obtain⟨⟨x0,x1,x2⟩,⟨y0,y1,y2⟩,hb4⟩:=HRes.out _ hb3;have hw3:w.heap.size+1<w3.heap.size:=Nat.lt_of_lt_of_le lw2 hb3.size;have HFc:=zd hfc;have HB4:=zd hb4;have HB3:=zd hb3;clear hfc hb3 hb4 HFo HBox q0 q1 q2 q3
  cases ok with
  |false=>
   obtain⟨hn1,rfl⟩:=HNil.out rfl;have hn2:=HSn.out;have hn3:=HSr.out;rw[hn1] at hn2 hn3;subst hn2;subst hn3;have HN1:=zd hn1;have HBs:Hid (∀u0 u1,Below w.heap.size w ((w3.setCell ⟨w.heap.size+1,0,none⟩ u0).setCell ⟨w.heap.size+1,1,none⟩ u1)):=fun u0 u1=>(HB4.out.setCell (by show w.heap.size<=w.heap.size+1; omega) _).setCell (by show w.heap.size<=w.heap.size+1; omega) _
   clear HNil HF HFc hn1;go_wp2_with fail;exact bodyPost_ret (v:=.tuple #[.agg #[.string ⟨#[]⟩,.slice none 0 0,.string ⟨#[]⟩],.bool false]) (by simp[results,Tryz.results269,go_sem,x0,x1,x2]) rfl ⟨none,0,0,rfl,by rw[HN1.out]; exact zcZ _ _,HSet.out _ _ _ _ (HBs.out _ _)⟩
  |true=>
   clear HNil;go_wp2_with fail;obtain⟨W5,HW5,hs5,hb5,hfc5,hx5⟩:∃W5,Hid ((w3.setCell ⟨w.heap.size+1,0,none⟩ (.slice a n cap)).setCell ⟨w.heap.size+1,1,none⟩ (.slice a2 n2 cap2)=W5)/\W5.heap.size=w3.heap.size/\Below w.heap.size w W5/\qC (fun b=>b<W5.heap.size) W5 fc (.agg #[.slice a n cap,.slice a2 n2 cap2])/\
     ((W5.cell? ⟨w.heap.size,0,none⟩=some (.string ⟨#[]⟩)/\W5.cell? ⟨w.heap.size,1,none⟩=some (.slice none 0 0)/\W5.cell? ⟨w.heap.size,2,none⟩=some (.string ⟨#[]⟩))/\(W5.frozen? ⟨w.heap.size,0,none⟩=false/\W5.frozen? ⟨w.heap.size,1,none⟩=false/\W5.frozen? ⟨w.heap.size,2,none⟩=false)):=by
    have hne:w.heap.size+1≠w.heap.size:=by omega
    refine⟨_,rfl,by simp,(HB4.out.setCell (by show w.heap.size<=w.heap.size+1; omega) _).setCell (by show w.heap.size<=w.heap.size+1; omega) _,?_,⟨?_,?_,?_⟩,?_,?_,?_⟩
    ·refine HFc.out.keep ⟨fun b hb=>?_,fun b hb=>?_⟩
     ·rw[Below.heap_setCell _ _ _ _ (by show b≠w.heap.size+1; omega),Below.heap_setCell _ _ _ _ (by show b≠w.heap.size+1; omega)]
     ·rw[xI,xI]; exact hb.2
    ·rw[World.cell?_setCell_far _ _ _ _ hne,World.cell?_setCell_far _ _ _ _ hne]; exact x0
    ·rw[World.cell?_setCell_far _ _ _ _ hne,World.cell?_setCell_far _ _ _ _ hne]; exact x1
    ·rw[World.cell?_setCell_far _ _ _ _ hne,World.cell?_setCell_far _ _ _ _ hne]; exact x2
    ·rw[World.frozen?_setCell,World.frozen?_setCell]; exact y0
    ·rw[World.frozen?_setCell,World.frozen?_setCell]; exact y1
    ·rw[World.frozen?_setCell,World.frozen?_setCell]; exact y2
   have h15:w1.heap.size<=W5.heap.size:=by have:=HB3.out.size; omega
   have hw5:w.heap.size<W5.heap.size:=by omega
   have HF5:=zd (HF.out W5 _ hfc5);have HX5:=zd hx5;have HB5:=zd hb5;rw[HW5.out];clear HW5 hs5 hb5 hfc5 hx5 HF HFc HB4 HB3 g0 g1 g2 g3 x0 x1 x2 y0 y1 y2 HRes;refine HF5.out.mono ?_;rintro e w6 ⟨a6,n6,cap6,rfl,hsg,hb6⟩;obtain⟨W7,HW7,hb7,hs7,e0,e1,e2⟩:∃W7,Hid (w6.alloc (.cells #[.string sn,.slice a6 n6 cap6,.string sr] 76)=W7)/\Below w6.heap.size w6 W7/\W7.heap.size=w6.heap.size+1/\W7.cell? ⟨w6.heap.size,0,none⟩=some (.string sn)/\W7.cell? ⟨w6.heap.size,1,none⟩=some (.slice a6 n6 cap6)/\W7.cell? ⟨w6.heap.size,2,none⟩=some (.string sr):=
    ⟨_,rfl,(Below.refl _ _).alloc (Nat.le_refl _) _,by simp,by simp[go_sem],by simp[go_sem],by simp[go_sem]⟩
   have HSg:=zd (hsg.keep (S':=fun b=>w1.heap.size<=b/\b<W7.heap.size) ⟨fun b hb=>hb7.block b hb.2,fun b hb=>⟨Nat.le_trans h15 hb.1,Nat.lt_of_lt_of_le hb.2 hb7.size⟩⟩);have hb57:=hb6.trans (hb7.mono hb6.size);have z0:=(hb57.cell (p:=⟨w.heap.size,0,none⟩) hw5).trans HX5.out.1.1;have z1:=(hb57.cell (p:=⟨w.heap.size,1,none⟩) hw5).trans HX5.out.1.2.1;have z2:=(hb57.cell (p:=⟨w.heap.size,2,none⟩) hw5).trans HX5.out.1.2.2;have v0:=(hb57.frozen (p:=⟨w.heap.size,0,none⟩) hw5).trans HX5.out.2.1;have v1:=(hb57.frozen (p:=⟨w.heap.size,1,none⟩) hw5).trans HX5.out.2.2.1;have v2:=(hb57.frozen (p:=⟨w.heap.size,2,none⟩) hw5).trans HX5.out.2.2.2;have HB7:=zd (HB5.out.trans (hb57.mono HB5.out.size));have hw6:w.heap.size<w6.heap.size:=Nat.lt_of_lt_of_le hw5 hb6.size;clear hsg hb6 hb7 hs7 hb57 HF5 HX5 HB5;go_wp2_with (first|(rw[HW7.out]; clear HW7)|fail);refine bodyPost_ret (v:=.tuple #[.agg #[.string sn,.slice a6 n6 cap6,.string sr],.bool (fe==0)]) (by simp[results,Tryz.results269,go_sem,z0,z1,z2]) rfl ⟨a6,n6,cap6,rfl,?_,HSet.out _ _ _ _ HB7.out⟩;exact HFin.out _ _ _ _ _ _ HSg.out
theorem zaa:Qv.toList=[105,110,116]:=by simp[Qv,ByteArray.toList,ByteArray.toList.loop,ByteArray.size,ByteArray.get!]
theorem zd2:ZB.toList=[116,101,120,116]:=by simp[ZB,ByteArray.toList,ByteArray.toList.loop,ByteArray.size,ByteArray.get!]
def vX (t:ByteArray) (ok:Bool):ByteArray×Int:=if ok=true then (t,0) else xq 8
theorem VM (t:ByteArray) (ok:Bool) (w:World) :
  Calls Tryz.prog 275 #[.string t,.bool ok] w fun e w'=>e=.returned (.tuple #[.string (vX t ok).1,.int .i64 (vX t ok).2])/\w=w':=by
 cases ok <;>
  (go_enter Tryz.func275,Tryz.ntmps275
   go_wp2_with fail;go_ret2;exact⟨rfl,rfl⟩)
theorem zhN (x y:ByteArray) (w:World) :
  Calls Tryz.prog 303 #[.string x,.string y] w fun e w'=>(∃t ok,e=.returned (.tuple #[.string t,.bool ok])/\xf 5 jz [x,y]=vX t ok)/\w=w':=by
 have hR:xf 5 jz [x,y]=if (x.toList==y.toList)&&((x.toList==[105,110,116])||(x.toList==[116,101,120,116])) then (x,0) else xq 8:=by
  unfold xf;rw[if_neg (by decide),if_pos rfl];simp only[sEq,zaa,zd2]
  rfl
 have HR:Hid (∀ok,((x.toList==y.toList)&&((x.toList==[105,110,116])||(x.toList==[116,101,120,116])))=ok->xf 5 jz [x,y]=vX x ok):=fun ok h=>by rw[hR,h]; rfl
 clear hR
 cases h1:(x.toList==y.toList) with
 |false=>
  have HF:=zd (HR.out false (by rw[h1]; rfl));go_enter Tryz.func303,Tryz.ntmps303;go_wp2_with fail;go_ret2;exact⟨⟨_,_,rfl,HF.out⟩,rfl⟩
 |true=>
  cases h2:(x.toList==[105,110,116]) with
  |true=>
   have HF:=zd (HR.out true (by rw[h1,h2]; rfl));go_enter Tryz.func303,Tryz.ntmps303;go_wp2_with fail;go_ret2;exact⟨⟨_,_,rfl,HF.out⟩,rfl⟩
  |false=>
   cases h3:(x.toList==[116,101,120,116]) with
   |true=>
    have HF:=zd (HR.out true (by rw[h1,h2,h3]; rfl));go_enter Tryz.func303,Tryz.ntmps303;go_wp2_with fail;go_ret2;exact⟨⟨_,_,rfl,HF.out⟩,rfl⟩
   |false=>
    have HF:=zd (HR.out false (by rw[h1,h2,h3]; rfl));go_enter Tryz.func303,Tryz.ntmps303;go_wp2_with fail;go_ret2;exact⟨⟨_,_,rfl,HF.out⟩,rfl⟩
theorem zcu (x y:ByteArray) (hx:x.size<=281474976710656) (w:World) :
  Calls Tryz.prog 304 #[.string x,.string y] w fun e w'=>(∃t ok,e=.returned (.tuple #[.string t,.bool ok])/\xf 7 jz [x,y]=vX t ok)/\Below w.heap.size w w':=by
 have hm:x.size<=maxLen:=by unfold maxLen; omega
 have hR:xf 7 jz [x,y]=if zZ x&&(y.toList==[105,110,116]) then (q6 x,0) else xq 8:=by
  unfold xf;rw[if_neg (by decide),if_neg (by decide),if_neg (by decide)];simp only[sEq,zaa]
  rfl
 cases h2:(y.toList==[105,110,116]) with
 |false=>
  have HF:Hid (xf 7 jz [x,y]=vX ⟨#[]⟩ false):=by show _=_; rw[hR,h2]; simp[vX]
  have h2':(y.toList != [105,110,116])=true:=by simp[bne,h2]
  clear hR;go_enter Tryz.func304,Tryz.ntmps304;go_wp2_with fail;go_ret2;exact⟨⟨_,_,rfl,HF.out⟩,Below.refl _ _⟩
 |true=>
  have h2':(y.toList != [105,110,116])=false:=by simp[bne,h2]
  cases h1:zZ x with
  |false=>
   have HF:Hid (xf 7 jz [x,y]=vX ⟨#[]⟩ false):=by show _=_; rw[hR,h1]; simp[vX]
   have HEl:=zd (fun W=>Xf hm h1 W);clear hR h1;go_enter Tryz.func304,Tryz.ntmps304;go_wp2_with fail;refine (HEl.out _).mono ?_;rintro e w6 ⟨rfl,rfl⟩;go_wp2_with fail;go_ret2;exact⟨⟨_,_,rfl,HF.out⟩,Below.refl _ _⟩
  |true=>
   have HF:Hid (xf 7 jz [x,y]=vX (q6 x) true):=by show _=_; rw[hR,h1,h2]; simp[vX]
   have HEl:=zd (fun W=>Qk hx h1 W);clear hR h1;go_enter Tryz.func304,Tryz.ntmps304;go_wp2_with fail;refine (HEl.out _).mono ?_;rintro e w6 ⟨rfl,hb⟩;have HB:=zd hb;clear hb;go_wp2_with fail;go_ret2;exact⟨⟨_,_,rfl,HF.out⟩,HB.out⟩
theorem zd3 (S:Nat->Prop) (is:List ByteArray) (t:ByteArray) (B:Nat) (v:Value) (w:World) (hv:ze S (zG w) 1 is v) (hn:0<is.length) (hp:w.cell? ⟨B,0,none⟩=some v) :
  Calls Tryz.prog 322 #[.string t,.pointer (some ⟨B,0,none⟩)] w fun e w'=>e=.returned (.bool (!sEq t is[0]))/\w=w':=by
 obtain⟨a,cap,rfl⟩:=hv.is;obtain⟨_,b,off,rfl,_,a0,_⟩:=hv.at hn;rw[Nat.zero_mul,Nat.add_zero] at a0;have hn':(0:Int)<(is.length:Int):=by omega
 have HE:Hid ((!sEq t is[0])=(t.toList != is[0].toList)):=rfl;clear hv;generalize is[0]=x at *;go_enter Tryz.func322,Tryz.ntmps322;go_wp2_with fail;go_ret;exact⟨by rw[HE.out]; rfl,rfl⟩
theorem zd4 (S:Nat->Prop) (l:List ByteArray) (B:Nat) (v:Value) (w:World) (hS:∀b,S b->b<w.heap.size) (hv:ze S (zG w) 1 l v) (hn:0<l.length) (hp:w.cell? ⟨B,0,none⟩=some v) :
  Calls Tryz.prog 336 #[v,.func (.func 322) #[] #[.pointer (some ⟨B,0,none⟩)]] w fun e w'=>e=.returned (.int .i64 (zC (fun t=>!sEq t l[0]) l))/\Below w.heap.size w w':=by
 have HV:=zd hv;have hlen:=hv.len;unfold maxLen at hlen;have HCl:Hid (∀W t,Below w.heap.size w W->Calls Tryz.prog 322 #[.string t,.pointer (some ⟨B,0,none⟩)] W fun e w'=>e=.returned (.bool (!sEq t l[0]))/\W=w'):=fun W t hW=>
  zd3 S l t B v W (zU (Keeps.below hW hS) hv) hn ((hW.cell (World.block_lt_of_cell? _ _ hp)).trans hp)
 obtain⟨a,cap,rfl⟩:=hv.is;clear hv hp;generalize l[0]=x0 at *;go_enter Tryz.func336,Tryz.ntmps336;go_wp2_with fail
 go_loopw [8] (fun i wr=>∃j:Nat,j<=l.length/\i=.int .i64 j/\zj (fun t=>!sEq t x0) l=j+zj (fun t=>!sEq t x0) (l.drop j)/\Below w.heap.size w wr) (fun i _=>l.length - (intOf i).toNat)
 case atStart=>exact⟨0,Nat.zero_le _,rfl,(Nat.zero_add _).symm,Below.refl _ _⟩
 case round=>
  obtain⟨j,hj,rfl,hq,hbl⟩:=hrel;have HQ:=zd hq;have HBW:=zd hbl;clear hq
  by_cases hlt:j<l.length
  ·have hlt':(j:Int)<(l.length:Int):=by omega
   obtain⟨_,b,off,rfl,hb,a0,m0⟩:=HV.out.at hlt;have hbk:=hS b hb;rw[Nat.mul_one] at a0;have d0:=(hbl.cell (p:=⟨b,off+j,none⟩) hbk).trans a0;have HC:=zd (HCl.out wr l[j] hbl);have HYes:Hid ((!sEq l[j] x0)=true->zj (fun t=>!sEq t x0) l=j):=fun h=>by
    rw[HQ.out,jG (p:=fun t=>!sEq t x0) hlt h]; rfl
   have HNo:Hid ((!sEq l[j] x0)=false->zj (fun t=>!sEq t x0) l=(j+1)+zj (fun t=>!sEq t x0) (l.drop (j+1))):=fun h=>by
    rw[HQ.out,kq (p:=fun t=>!sEq t x0) hlt h]; omega
   clear a0 m0 HV hbl HQ HCl;generalize l[j]=x at *;generalize hx:(!sEq x x0)=r at *
   cases r with
   |true=>
    have HI:Hid (zC (fun t=>!sEq t x0) l=(j:Int)):=by
     show _=_;unfold zC;rw[HYes.out rfl,if_pos hlt]
    clear HYes HNo hx;go_wp2_with fail;refine HC.out.mono ?_;rintro e w1 ⟨rfl,rfl⟩;go_wp2_with fail;go_ret;exact⟨by rw[HI.out]; rfl,HBW.out⟩
   |false=>
    have HN:=zd (HNo.out rfl);clear HYes HNo hx;go_wp2_with fail;refine HC.out.mono ?_;rintro e w1 ⟨rfl,rfl⟩;go_wp2_with fail;exact⟨⟨j+1,by omega,by go_num,HN.out,HBW.out⟩,by simp[intOf]; omega⟩
  ·have hnl:¬(j:Int)<(l.length:Int):=by omega
   have HI:Hid (zC (fun t=>!sEq t x0) l=-1):=by
    show _=_;unfold zC;rw[HQ.out,jH (by omega),if_neg (by omega)]
   clear HV hbl HQ HCl;go_wp2_with fail;go_ret;exact⟨by rw[HI.out]; rfl,HBW.out⟩
theorem zbQ {α:Type} (p:α->Bool):∀l:List α,decide (zj (fun x=>!p x) l<l.length)=!l.all p
 |[]=>by simp[zj]
 |x::r=>by
  have ih:=zbQ p r
  cases hx:p x with
  |true=>
   rw[zj,if_neg (by rw[hx]; decide),List.all_cons,hx,Bool.true_and,<- ih];simp
  |false=>
   rw[zj,if_pos (by rw[hx]; decide),List.all_cons,hx];simp
theorem zfx (S:Nat->Prop) (l:List ByteArray) (B:Nat) (v:Value) (w:World) (hS:∀b,S b->b<w.heap.size) (hv:ze S (zG w) 1 l v) (hn:0<l.length) (hp:w.cell? ⟨B,0,none⟩=some v) :
  Calls Tryz.prog 321 #[v,.func (.func 322) #[] #[.pointer (some ⟨B,0,none⟩)]] w fun e w'=>e=.returned (.bool (!l.all (fun t=>sEq t l[0])))/\Below w.heap.size w w':=by
 have HC:=zd (zd4 S l B v w hS hv hn hp);have hE:decide (0<=zC (fun t=>!sEq t l[0]) l)=!l.all (fun t=>sEq t l[0]):=by
  rw[<- zbQ];unfold zC
  by_cases h:zj (fun t=>!sEq t l[0]) l<l.length
  ·rw[if_pos h]; simp[h]
  ·rw[if_neg h]; simp[h]
 have HE:=zd hE;obtain⟨a,cap,rfl⟩:=hv.is;clear hv hE;generalize zC (fun t=>!sEq t l[0]) l=r at *;go_enter Tryz.func321,Tryz.ntmps321;go_wp2_with fail;refine HC.out.mono ?_;rintro e w1 ⟨rfl,hb1⟩;have HB1:=zd hb1;clear hb1;go_wp2_with fail;go_ret;exact⟨by rw[<- HE.out]; rfl,HB1.out⟩
theorem zfy (S:Nat->Prop) (l:List ByteArray) (v:Value) (w:World) (hS:∀b,S b->b<w.heap.size) (hv:ze S (zG w) 1 l v) (hn:0<l.length) :
  Calls Tryz.prog 302 #[v] w fun e w'=>(∃t ok,e=.returned (.tuple #[.string t,.bool ok])/\xf 6 jz l=vX t ok)/\Below w.heap.size w w':=by
 obtain⟨w2,hwe,hs2,p1,hbel⟩:∃w2,w.alloc (.cells #[v] 37)=w2/\w2.heap.size=w.heap.size+1/\w2.cell? ⟨w.heap.size,0,none⟩=some v/\Below w.heap.size w w2:=
  ⟨_,rfl,by simp,by simp[go_sem],(Below.refl _ _).alloc (Nat.le_refl _) _⟩
 have hv2:=zU (Keeps.below hbel hS) hv;have HC:=zd (zfx S l w.heap.size v w2 (fun b hb=>Nat.lt_of_lt_of_le (hS b hb) hbel.size) hv2 hn p1);obtain⟨a,cap,rfl⟩:=hv.is;obtain⟨_,b,off,rfl,hb,a0,m0⟩:=hv2.at hn;rw[Nat.zero_mul,Nat.add_zero] at a0;have hb2:=Nat.lt_of_lt_of_le (hS b hb) hbel.size;have hg:l.getD 0 .empty=l[0]:=by rw[List.getD_eq_getElem?_getD,List.getElem?_eq_getElem hn,Option.getD_some]
 have hR:xf 6 jz l=if l.all (fun i=>sEq i l[0]) then (if qq l[0]=0 then (yH l[0],0) else xq 8) else xq 8:=by
  unfold xf;rw[if_neg (by decide),if_neg (by decide),if_pos rfl,hg]
 have HWe:=zd hwe;have HBel:=zd hbel;have hn':(0:Int)<(l.length:Int):=by omega
 have hl2:w.heap.size<w2.heap.size:=by omega
 clear hv hv2 hg hwe hbel;generalize l[0]=x at *;generalize hall:l.all (fun i=>sEq i x)=al at *
 cases al with
 |false=>
  have HF:Hid (xf 6 jz l=vX ⟨#[]⟩ false):=by show _=_; rw[hR]; simp[vX]
  clear hR hall;go_enter Tryz.func302,Tryz.ntmps302;go_wp2_with fail;rw[HWe.out];refine HC.out.mono ?_;rintro e w1 ⟨rfl,hb1⟩;have HB1:=zd (HBel.out.trans (hb1.mono HBel.out.size));clear hb1;go_wp2_with fail;go_ret2;exact⟨⟨_,_,rfl,HF.out⟩,HB1.out⟩
 |true=>
  by_cases he:qq x=0
  ·have HF:Hid (xf 6 jz l=vX (yH x) true):=by show _=_; rw[hR,if_pos rfl,if_pos he]; rfl
   have HK:=zd (fun W=>Xq he W);clear hR hall he;go_enter Tryz.func302,Tryz.ntmps302;go_wp2_with fail;rw[HWe.out];refine HC.out.mono ?_;rintro e w1 ⟨rfl,hb1⟩;have e0:=(hb1.cell (p:=⟨w.heap.size,0,none⟩) hl2).trans p1;have e1:=(hb1.cell (p:=⟨b,off,none⟩) hb2).trans a0;have HB1:=zd (HBel.out.trans (hb1.mono HBel.out.size));clear hb1 p1 a0;go_wp2_with fail;refine (HK.out _).mono ?_;rintro e w6 ⟨rfl,rfl⟩;go_wp2_with fail;go_ret2;exact⟨⟨_,_,rfl,HF.out⟩,HB1.out⟩
  ·have HF:Hid (xf 6 jz l=vX ⟨#[]⟩ false):=by show _=_; rw[hR,if_pos rfl,if_neg he]; rfl
   have HK:=zd (fun W=>X3 m0 he W);have he':(qq x==0)=false:=by simp[he]
   clear hR hall he;generalize qq x=le at *;go_enter Tryz.func302,Tryz.ntmps302;go_wp2_with fail;rw[HWe.out];refine HC.out.mono ?_;rintro e w1 ⟨rfl,hb1⟩;have e0:=(hb1.cell (p:=⟨w.heap.size,0,none⟩) hl2).trans p1;have e1:=(hb1.cell (p:=⟨b,off,none⟩) hb2).trans a0;have HB1:=zd (HBel.out.trans (hb1.mono HBel.out.size));clear hb1 p1 a0;go_wp2_with fail;refine (HK.out _).mono ?_;rintro e w6 ⟨rfl,rfl⟩;go_wp2_with fail;go_ret2;exact⟨⟨_,_,rfl,HF.out⟩,HB1.out⟩
theorem zgT (S:Nat->Prop) (k:Int) (l:List ByteArray) (v:Value) (w:World) (hS:∀b,S b->b<w.heap.size) (hv:ze S (zG w) 1 l v) (hk:k=5\/k=6\/k=7) (hc:qe k l.length=true) (hsz:∀t∈l,t.size<=281474976710656) :
  Calls Tryz.prog 276 #[.int .i64 k,v] w fun e w'=>(∃t ok,e=.returned (.tuple #[.string t,.bool ok])/\xf k jz l=vX t ok)/\Below w.heap.size w w':=by
 rcases hk with rfl|rfl|rfl
 ·have hn:l.length=2:=by simpa [qe] using hc
  obtain⟨x,y,rfl⟩:∃x y,l=[x,y]:=by
   match l,hn with
   |[x,y],_=>exact⟨x,y,rfl⟩
  obtain⟨a,cap,rfl,_,h0⟩:=hv
  rcases h0 with h0|⟨b,off,rfl,hb,⟨s0,_⟩,⟨s1,_⟩,_⟩
  ·cases h0
  have HC:=zd (fun W=>zhN x y W);clear hc hn hsz;have hl2:(([x,y]:List ByteArray).length:Int)=2:=rfl;go_enter Tryz.func276,Tryz.ntmps276;go_wp2_with fail
  go_region_with (go_at_call 303; refine (HC.out _).mono ?_; rintro e w6 ⟨⟨t,ok,rfl,hf⟩,rfl⟩)
  all_goals
   have HF:=zd hf;clear hf;go_wp2_with fail;go_ret2;exact⟨⟨_,_,rfl,HF.out⟩,(Below.refl _ _).drew⟩
 ·have hn:0<l.length:=by simpa [qe] using hc
  have HC:=zd (zfy S l v w hS hv hn);have hn':(0:Int)<(l.length:Int):=by omega
  obtain⟨a,cap,rfl⟩:=hv.is;clear hc hv hsz;go_enter Tryz.func276,Tryz.ntmps276;go_wp2_with fail;refine HC.out.mono ?_;rintro e w6 ⟨⟨t,ok,rfl,hf⟩,hb⟩;have HF:=zd hf;have HB:=zd hb;clear hf hb;go_wp2_with fail;go_ret2;exact⟨⟨_,_,rfl,HF.out⟩,HB.out⟩
 ·have hn:l.length=2:=by simpa [qe] using hc
  obtain⟨x,y,rfl⟩:∃x y,l=[x,y]:=by
   match l,hn with
   |[x,y],_=>exact⟨x,y,rfl⟩
  obtain⟨a,cap,rfl,_,h0⟩:=hv
  rcases h0 with h0|⟨b,off,rfl,hb,⟨s0,_⟩,⟨s1,_⟩,_⟩
  ·cases h0
  have HC:=zd (fun W=>zcu x y (hsz x (by simp)) W);clear hc hn hsz;have hl2:(([x,y]:List ByteArray).length:Int)=2:=rfl;go_enter Tryz.func276,Tryz.ntmps276;go_wp2_with fail
  go_region_with (go_at_call 304; refine (HC.out _).mono ?_; rintro e w6 ⟨⟨t,ok,rfl,hf⟩,hb⟩)
  all_goals
   have HF:=zd hf;have HB:=zd ((Below.refl w.heap.size w).drew.trans (hb.mono (Nat.le_refl _)));clear hf hb;go_wp2_with fail;go_ret2;exact⟨⟨_,_,rfl,HF.out⟩,HB.out⟩
end Go.Proofs.YtedpiamfpbdhoaaGreatDoor
