import Derived.Test.YtedpiamfpbdhoaaGreatDoorJFg22
import Derived.LoopN
set_option maxHeartbeats 40000000
set_option maxRecDepth 100000
namespace Go.Proofs.YtedpiamfpbdhoaaGreatDoor
open Go.RowKit
theorem zcn (S:Nat->Prop) (m:Mo) (l:List Im) (k:Nat) (vm vl:Value) (w:World) (hS:∀b,S b->b<w.heap.size) (hm:qT S w m vm) (hl:ze S (yd S w) 4 l vl) (hz:∀i∈l,zH i.face) (hty:∀f∈m.types,zl f.is 1=0) (hn:m.types.length<=reachBytes) (hk:k<m.types.length) :
  Calls Tryz.prog 103 #[vm,vl,.int .i64 (k:Nat)] w (xS w (qw m l k)):=by
 rw[zdV hk hty];obtain⟨vu,vty,vf,rfl,hu,hts,hf⟩:=id hm;obtain⟨u1,u2,u3,rfl⟩:=hu.slice;obtain⟨t1,t3,rfl⟩:=hts.is;obtain⟨f1,f2,f3,rfl⟩:=hf.slice;obtain⟨la,ln,lc,rfl⟩:=hl.slice;obtain⟨_,b,off,rfl,hb,hat⟩:=hts.at hk;obtain⟨kd,fo,na,p1,p2,p3,a0,a1,a2,a3,a4,hcs⟩:=Zc hat;have hbw:=hS b hb;have hle:zq m m.types[k].name<=k:=by rw[<- kg hk]; exact zbA hk
 have HN:Hid (∀W,Below w.heap.size w W->Calls Tryz.prog 174 #[.slice (some ⟨b,off,none⟩) m.types.length t3,.string m.types[k].name] W fun e w'=>e=.returned (.int .i64 (zq m m.types[k].name:Nat))/\Below W.heap.size W w'):=fun W hW=>by
  have:=KW S m.types m.types[k].name _ W (fun b hb=>Nat.lt_of_lt_of_le (hS b hb) hW.size) (zP (Keeps.below hW hS) hts)
  rwa [zcS (by omega)] at this
 have HSol:Hid (∀W,Below w.heap.size w W->Calls Tryz.prog 110 #[.agg #[.slice u1 u2 u3,.slice (some ⟨b,off,none⟩) m.types.length t3,.slice f1 f2 f3],.slice la ln lc,.string ⟨#[]⟩,.agg #[.int .i64 kd,.string fo,.string na,.slice p1 p2 p3]] W (xS W (zo (Q0 zr (qt m l m.types.length [])) 10 m.types[k].is))):=fun W hW=>
  YX S m l zr m.types[k].is _ _ _ W (fun b hb=>Nat.lt_of_lt_of_le (hS b hb) hW.size) (hm.keep (Keeps.below hW hS)) (qd (Keeps.below hW hS) hl) hz hty (hty _ (List.getElem_mem hk)) ⟨_,_,_,_,rfl,hcs.keep (Keeps.below hW hS)⟩ hn
 obtain⟨w2,hwe,hs2,y0,y1,y2,hbel⟩:∃w2,w.alloc (.cells #[.slice u1 u2 u3,.slice (some ⟨b,off,none⟩) m.types.length t3,.slice f1 f2 f3] 41)=w2/\w2.heap.size=w.heap.size+1/\w2.cell? ⟨w.heap.size,0,none⟩=some (.slice u1 u2 u3)/\w2.cell? ⟨w.heap.size,1,none⟩=some (.slice (some ⟨b,off,none⟩) m.types.length t3)/\w2.cell? ⟨w.heap.size,2,none⟩=some (.slice f1 f2 f3)/\Below w.heap.size w w2:=
  ⟨_,rfl,by simp,by simp[go_sem],by simp[go_sem],by simp[go_sem],(Below.refl _ _).alloc (Nat.le_refl _) _⟩
 have HCells:Hid (∀W,Below w2.heap.size w2 W->(W.cell? ⟨b,off+k * 5,none⟩=some (.string m.types[k].name)/\W.cell? ⟨b,off+k * 5+1,none⟩=some (.int .i64 kd)/\W.cell? ⟨b,off+k * 5+2,none⟩=some (.string fo)/\W.cell? ⟨b,off+k * 5+3,none⟩=some (.string na)/\W.cell? ⟨b,off+k * 5+4,none⟩=some (.slice p1 p2 p3))/\(W.cell? ⟨w.heap.size,0,none⟩=some (.slice u1 u2 u3)/\W.cell? ⟨w.heap.size,1,none⟩=some (.slice (some ⟨b,off,none⟩) m.types.length t3)/\W.cell? ⟨w.heap.size,2,none⟩=some (.slice f1 f2 f3))/\Below w.heap.size w W):=fun W hW=>by
  have hW2:=hbel.trans (hW.mono hbel.size);exact⟨⟨(hW2.cell (p:=⟨b,_,none⟩) hbw).trans a0,(hW2.cell (p:=⟨b,_,none⟩) hbw).trans a1,(hW2.cell (p:=⟨b,_,none⟩) hbw).trans a2,(hW2.cell (p:=⟨b,_,none⟩) hbw).trans a3,(hW2.cell (p:=⟨b,_,none⟩) hbw).trans a4⟩,⟨(hW.cell (p:=⟨w.heap.size,0,none⟩) (by show w.heap.size<_; omega)).trans y0,(hW.cell (p:=⟨w.heap.size,1,none⟩) (by show w.heap.size<_; omega)).trans y1,(hW.cell (p:=⟨w.heap.size,2,none⟩) (by show w.heap.size<_; omega)).trans y2⟩,hW2⟩
 have HWe:=zd hwe;clear hm hl hz hty hn hu hts hf hat hcs hwe hbel a0 a1 a2 a3 a4 y0 y1 y2;generalize zo (Q0 zr (qt m l m.types.length [])) 10 m.types[k].is=r at *;generalize zq m m.types[k].name=q at *;generalize m.types[k].name=nm at *;have hk1:(k:Int)<(m.types.length:Int):=by omega
 have hk2:(0:Int)<=(k:Int):=by omega
 obtain⟨⟨c0,c1,c2,c3,c4⟩,⟨c5,c6,c7⟩,hb2⟩:=HCells.out w2 (Below.refl _ _);have HB2:=zd hb2.drew;clear hb2
 by_cases hlt:q<k
 ·have hlt':(q:Int)<(k:Int):=by omega
  have HR:Hid ((if q<k then (zr,(4:Int)) else r)=(zr,4)):=if_pos hlt;generalize (if q<k then (zr,(4:Int)) else r)=r' at *;clear HSol;go_enter Tryz.func103,Tryz.ntmps103;go_wp2_with fail;rw[HWe.out];go_wp2_with fail
  go_region_with (go_at_call 174; refine (HN.out _ HB2.out).mono ?_; rintro e w3 ⟨rfl,hb3⟩)
  all_goals
   have HB3:=zd (HB2.out.trans (hb3.mono HB2.out.size));clear hb3 c0 c1 c2 c3 c4 c5 c6 c7;go_wp2_with fail;go_ret2;exact⟨by rw[HR.out]; rfl,HB3.out⟩
 ·have hlt':¬(q:Int)<(k:Int):=by omega
  have HR:Hid ((if q<k then (zr,(4:Int)) else r)=r):=if_neg hlt;generalize (if q<k then (zr,(4:Int)) else r)=r' at *;go_enter Tryz.func103,Tryz.ntmps103;go_wp2_with fail;rw[HWe.out];go_wp2_with fail
  go_region_with (go_at_call 174; refine (HN.out _ HB2.out).mono ?_; rintro e w3 ⟨rfl,hb3⟩)
  all_goals
   obtain⟨⟨d0,d1,d2,d3,d4⟩,⟨d5,d6,d7⟩,hb4⟩:=HCells.out w3 ((Below.refl _ _).drew.trans (hb3.mono (Nat.le_refl _)));have HB4:=zd hb4.drew;clear hb3 hb4 c0 c1 c2 c3 c4 c5 c6 c7;go_wp2_with fail
   go_region_with (go_at_call 110; refine (HSol.out _ HB4.out).mono ?_; rintro e w5 ⟨rfl,hb5⟩)
   all_goals
    have HB5:=zd (HB4.out.trans (hb5.mono HB4.out.size));clear hb5;go_wp2_with fail;go_ret2;exact⟨by rw[HR.out]; rfl,HB5.out⟩
end Go.Proofs.YtedpiamfpbdhoaaGreatDoor
namespace Go.Proofs.YtedpiamfpbdhoaaGreatDoor
open Go.RowKit Go.Shelf
open Go.Sort (grow putRowK putRow mapBlock ahead onCells HoldsK Holds flatK size_flatK get_flatK alloc_eq_grow grow_grow)
def ZE (x:Kn):List Value:=[.string x.name,.string x.is]
def ZV (l:List Kn):List Value:=l.flatMap ZE
theorem zbH (l:List Kn) (x:Kn):ZV (l++[x])=ZV l++[.string x.name,.string x.is]:=by simp[ZV,ZE]
theorem zfj (x y:Kn) (W:World):Calls Tryz.prog 106 #[.agg #[.string x.name,.string x.is],.agg #[.string y.name,.string y.is]] W fun e w'=>e=.returned (.int .i64 (kJ Kn.name x y))/\∃q os',w'=grow (W.drewN q) os':=by
 have HC:Hid (∀W,Calls Tryz.prog 60 #[.string x.name,.string y.name] W fun e w'=>e=.returned (.int .i64 (Lib.compareBytes x.name.data.toList y.name.data.toList))/\w'=W):=fun W=>Tryz.strings_Compare x.name y.name W
 have HE:Hid (kJ Kn.name x y=Lib.compareBytes x.name.data.toList y.name.data.toList):=rfl;generalize kJ Kn.name x y=r at *;generalize Lib.compareBytes x.name.data.toList y.name.data.toList=r' at *;go_enter Tryz.func106,Tryz.ntmps106;go_wp2_with fail;refine (HC.out _).mono ?_;rintro e w' ⟨rfl,rfl⟩;go_wp2_with fail;go_ret;exact⟨by rw[HE.out]; rfl,0,_,by rw[alloc_eq_grow,alloc_eq_grow,grow_grow]; rfl⟩
def zgK (base:Nat) (v:Value) (l l':List Kn) (w':World):Prop:=l'.Perm l/\xN Kn.name l'/\ze (fun b=>base<=b/\b<w'.heap.size) (jp w') 2 l' v
theorem zhI {w:World} {base:Nat} {v:Value} {l:List Kn} (h:w.ownsRow base 74 2 v l.length (ZV l)) (hl:l.length<=100) (hz:∀x∈l,x.name.size<=maxLen/\x.is.size<=maxLen) (ha:Z8 Kn.name l) :
  Calls Tryz.prog 105 #[v,.func (.func 106) #[] #[]] w fun e w'=>e=.returned (.tuple #[])/\(∃l',zgK base v l l' w')/\w.grownBy w' v.ownBlock:=by
 have hml:l.length<=maxLen:=by unfold maxLen; omega
 by_cases he:l=[]
 ·subst he
  obtain⟨a,cap,rfl⟩:∃a cap,v=.slice a 0 cap:=by
   obtain⟨_,⟨hv,_⟩|⟨g,cap,cur,hv,_⟩⟩:=h
   ·exact⟨_,_,hv⟩
   ·exact⟨_,_,hv⟩
  have hc:=AnyF.slices_SortFunc_none Tryz.sortKn a cap (.func (.func 106) #[] #[]) w
  change Calls Tryz.prog 105 _ _ _ at hc
  refine hc.mono ?_;rintro e w' ⟨rfl,rfl⟩;refine⟨rfl,⟨[],List.Perm.refl _,List.Pairwise.nil,a,cap,rfl,⟨by simp,by simp⟩,Or.inl rfl⟩,⟨rfl,rfl,rfl,Nat.le_refl _,fun _ _ _=>rfl⟩⟩
 ·have hpos:0<l.length:=List.length_pos_iff.2 he
  obtain⟨g,cap,rfl,hg,hgl⟩:=h.form hpos;have hH:HoldsK ZE 2 w g 0 l.toArray:=JN ZE 2 (fun _=>rfl) (by omega) h;have hcap:l.length<=cap:=by
   obtain⟨_,⟨hv,_⟩|⟨g',cap',cur,hv,_,_,h1,_⟩⟩:=h
   ·cases hv
   ·injection hv with _ _ e3
    subst e3; exact h1
  have hsz:l.toArray.size=l.length:=by simp
  have eg:∀args w,(callFunc 106 args).run Tryz.prog w=.ok (.enter 106 args) w:=enters_of Tryz.func106 (by kernel_rfl) rfl;have hcmp:CmpLays Tryz.prog 106 #[] ZE 2 (kJ Kn.name) g 0 l.toArray.size w:=fun _ _ _ _ x y=>zfj x y _
  have hc:=AnyQ.slices_SortFunc Tryz.sortKn 2 Tryz.isAgg74 Tryz.sizeOf74 ZE (fun _=>rfl) (fun x v hv=>by simp[ZE] at hv; rcases hv with rfl|rfl <;> rfl) (kJ Kn.name) (zbw Kn.name) 106 #[] g 0 cap l.toArray w eg hcmp hH hgl (by rw[hsz]; omega)
  change Calls Tryz.prog 105 _ _ _ at hc
  rw[hsz] at hc;refine hc.mono ?_;rintro e w' ⟨rfl,d',n,os,hp,hs,rfl⟩;have hp':Sort.PermIn 0 l.toArray.size l.toArray d':=by rw[hsz]; exact hp
  have hs':Sort.SortedIn (ltOf (kJ Kn.name)) 0 l.toArray.size d':=by rw[hsz]; exact hs
  obtain⟨hperm,hrise⟩:=Y1 Kn.name hp' hs' (by simpa using ha);have hlen:d'.toList.length=l.length:=by rw[hperm.length_eq]
  have hds:d'.size=l.toArray.size:=by rw[hsz,<- hlen,Array.length_toList]
  have hH':=Xk ZE 2 (m:=n) (os:=os) hH hgl hds;have hbl:=Xj ZE 2 (w:=w) (g:=g) (m:=n) (d:=d') (os:=os);refine⟨rfl,⟨d'.toList,by simpa using hperm,hrise,some ⟨g,0,none⟩,cap,by rw[hlen],⟨by rw[hlen]; exact hml,by rw[hlen]; exact hcap⟩,Or.inr ⟨g,0,rfl,⟨hg,Nat.lt_of_lt_of_le hgl ?_⟩,qA.mk fun i hi=>?_⟩⟩,hbl⟩
  ·simp[sortWorldK,grow,putRowK,putRow,mapBlock]
  ·have hi':i<d'.size:=by simpa using hi
   have hmem:d'.toList[i]∈l:=by
    have:=hperm.subset (List.getElem_mem hi);simpa using this
   have g0:=(hH' (i * 2) (by rw[size_flatK]; omega)).1;have g1:=(hH' (i * 2+1) (by rw[size_flatK]; omega)).1;rw[get_flatK _ _ _ _ (by omega),show i * 2 / 2=i by omega,show i * 2 % 2=0 by omega] at g0;rw[get_flatK _ _ _ _ (by omega),show (i * 2+1) / 2=i by omega,show (i * 2+1) % 2=1 by omega] at g1;have e0:d'[i]! = d'.toList[i]:=by simp[getElem!_pos,hi']
   rw[e0] at g0 g1;obtain⟨z1,z2⟩:=hz _ hmem;exact⟨⟨by simpa [ZE] using g0,z1⟩,by simpa [ZE,Nat.add_assoc] using g1,z2⟩
end Go.Proofs.YtedpiamfpbdhoaaGreatDoor
namespace Go.Proofs.YtedpiamfpbdhoaaGreatDoor
open Go.RowKit
theorem ZW {w w':World} {B:Nat} {e:TypeId} {size:Nat} {u:Value} {n:Nat} {xs:List Value} {row:Option Nat} (h:w.ownsRow B e size u n xs) (hg:w.grownBy w' row) (hne:∀j,u.ownBlock=some j->row≠some j):w'.ownsRow B e size u n xs:=by
 have hin:=zk h;refine⟨h.1,h.2.imp_right ?_⟩;rintro ⟨g,cap,cur,rfl,hb,hh,hr⟩;refine⟨g,cap,cur,rfl,hb,?_,hr⟩;rw[hg.block g (hin g rfl).2 (fun e=>hne g rfl e.symm)];exact hh
def jQ (v u:Value):Prop:=∀j,v.ownBlock=some j->u.ownBlock≠some j
theorem jQ.symm {v u:Value} (h:jQ v u):jQ u v:=fun j hj hv=>h j hv hj
theorem jQ.grow {w:World} {B:Nat} {e:TypeId} {size:Nat} {v u:Value} {n:Nat} {xs:List Value} {g:Nat} {a:Nat} {m c H:Nat} (h:jQ v u) (hv:w.ownsRow B e size v n xs) (hat:u.ownBlock=some g\/g=H) (hH:w.heap.size<=H):jQ v (.slice (some ⟨g,a,none⟩) m c):=fun j hj hu=>by
 have e:g=j:=by simpa [Value.ownBlock] using hu
 subst e
 rcases hat with h1|h1
 ·exact h g hj h1
 ·have:=(zk hv g hj).2; omega
theorem K7 (S:Nat->Prop) (m:Mo) (l:List Im) (vm vl:Value) (w:World) (hS:∀b,S b->b<w.heap.size) (hm:qT S w m vm) (hl:ze S (yd S w) 4 l vl) (hz:∀i∈l,zH i.face) (hty:∀f∈m.types,zf f.name=true/\zl f.is 1=0) (h24:m.types.length<=24) :
  Calls Tryz.prog 55 #[vm,vl] w fun e w'=>∃u v,e=.returned (.tuple #[u,v])/\ze (fun b=>w.heap.size<=b/\b<w'.heap.size) (jp w') 2 (xT m l m.types.length) u/\ze (fun b=>w.heap.size<=b/\b<w'.heap.size) (xp w') 2 (qp m l m.types.length) v/\Below w.heap.size w w':=by
 have hn8:∀f∈m.types,f.name.size<=8:=fun f hf=>xi (hty f hf).1
 have HC:Hid (∀W k,k<m.types.length->Below w.heap.size w W->Calls Tryz.prog 103 #[vm,vl,.int .i64 (k:Nat)] W (xS W (qw m l k))):=fun W k hk hW=>
  zcn S m l k vm vl W (fun b hb=>Nat.lt_of_lt_of_le (hS b hb) hW.size) (hm.keep (Keeps.below hW hS)) (qd (Keeps.below hW hS) hl) hz (fun f hf=>(hty f hf).2) (by unfold reachBytes; omega) hk
 obtain⟨vu,vty,vf,rfl,hu,hts,hf⟩:=hm;have HT:=zd hts;obtain⟨u1,u2,u3,rfl⟩:=hu.slice;obtain⟨t1,t3,rfl⟩:=hts.is;obtain⟨f1,f2,f3,rfl⟩:=hf.slice;obtain⟨la,ln,lc,rfl⟩:=hl.slice;obtain⟨w0,hwe,hs0,hA,q0,q1,q2⟩:∃w0,w.alloc (.cells #[.slice u1 u2 u3,.slice t1 m.types.length t3,.slice f1 f2 f3] 41)=w0/\w0.heap.size=w.heap.size+1/\Below w.heap.size w w0/\
   w0.cell? ⟨w.heap.size,0,none⟩=some (.slice u1 u2 u3)/\w0.cell? ⟨w.heap.size,1,none⟩=some (.slice t1 m.types.length t3)/\w0.cell? ⟨w.heap.size,2,none⟩=some (.slice f1 f2 f3):=
  ⟨_,rfl,by simp,(Below.refl _ _).alloc (Nat.le_refl _) _,by simp[go_sem],by simp[go_sem],by simp[go_sem]⟩
 have HBox:Hid (∀W,Below w0.heap.size w0 W->(W.cell? ⟨w.heap.size,0,none⟩=some (.slice u1 u2 u3)/\W.cell? ⟨w.heap.size,1,none⟩=some (.slice t1 m.types.length t3)/\W.cell? ⟨w.heap.size,2,none⟩=some (.slice f1 f2 f3))/\Below w.heap.size w W/\w.heap.size+1<=W.heap.size):=fun W h=>
  ⟨⟨(h.cell (p:=⟨w.heap.size,0,none⟩) (by show w.heap.size<_; omega)).trans q0,(h.cell (p:=⟨w.heap.size,1,none⟩) (by show w.heap.size<_; omega)).trans q1,(h.cell (p:=⟨w.heap.size,2,none⟩) (by show w.heap.size<_; omega)).trans q2⟩,hA.trans (h.mono hA.size),by have:=h.size; omega⟩
 have HWe:=zd hwe;have HBads:=zd (Q5 (m:=m) (l:=l) hn8);have HOks:=zd (VJ (l:=l) hz hn8);have HSz:=zd (Yi (l:=l) hz hn8);clear hu hts hf hl hwe hA q0 q1 q2 hz;obtain⟨i0,hi,hz0,hz1,hz2⟩:=info_parts XJ;obtain⟨i1,hj,hz3,hz4,hz5⟩:=info_parts zcP;go_enter Tryz.func55,Tryz.ntmps55;go_wp2_with fail;rw[HWe.out];clear HWe
 go_loopw [6,7,15] (fun v u i wr=>∃k:Nat,k<=m.types.length/\i=.int .i64 k/\wr.ownsRow (w.heap.size+1) 74 2 v (qG m l k).length (ZV (qG m l k))/\wr.ownsRow (w.heap.size+1) 51 2 u (qp m l k).length (zN (qp m l k))/\jQ v u/\Below w0.heap.size w0 wr) (fun _ _ i _=>m.types.length - (intOf i).toNat)
 case atStart=>exact⟨0,Nat.zero_le _,rfl,World.ownsRow_nil _ _ _ _,World.ownsRow_nil _ _ _ _,(fun j hj=>by cases hj),Below.refl _ _⟩
 case round=>
  obtain⟨k,hk,rfl,hown,hownD,hpar,hbl⟩:=hrel;obtain⟨⟨c0,c1,c2⟩,hbw,hsz⟩:=HBox.out _ hbl;have HOwn:=zd hown;have HOwnD:=zd hownD;have HPar:=zd hpar;have HBl:=zd hbl;have HBw:=zd hbw;clear hown hownD hpar hbl hbw
  by_cases hlt:k<m.types.length
  ·have hlt':(k:Int)<(m.types.length:Int):=by omega
   obtain⟨_,b,off,rfl,hb,hat⟩:=HT.out.at hlt;obtain⟨kd,fo,na,p1,p2,p3,a0,a1,a2,a3,a4,_⟩:=Zc hat;have hbk:=hS b hb;have d0:=(HBw.out.cell (p:=⟨b,off+k * 5,none⟩) hbk).trans a0;have d1:=(HBw.out.cell (p:=⟨b,off+k * 5+1,none⟩) hbk).trans a1;have d2:=(HBw.out.cell (p:=⟨b,off+k * 5+2,none⟩) hbk).trans a2;have d3:=(HBw.out.cell (p:=⟨b,off+k * 5+3,none⟩) hbk).trans a3;have d4:=(HBw.out.cell (p:=⟨b,off+k * 5+4,none⟩) hbk).trans a4;have HC2:=zd (fun W=>HC.out W k hlt);have hnm:xF m k=m.types[k].name:=kg hlt;have HNz:Hid (m.types[k].name.size<=281474976710656):=by
    have:=(HSz.out k).2;rw[hnm] at this;unfold maxLen at this;have h8:=xi (hty _ (List.getElem_mem hlt)).1;show _<=_;omega
   have HLe:=zd (Yh m l k);have HLeD:=zd (Xi m l k);have HOk:Hid ((qw m l k).2=0->qG m l (k+1)=qG m l k++[⟨m.types[k].name,(qw m l k).1⟩]/\qp m l (k+1)=qp m l k):=fun h=>⟨by rw[<- hnm]; exact (zbD h).1,(zbD h).2.1⟩
   have HBad:Hid ((qw m l k).2≠0->qG m l (k+1)=qG m l k/\qp m l (k+1)=qp m l k++[⟨m.types[k].name,(qw m l k).2⟩]):=fun h=>⟨(K5 h).1,by rw[<- hnm]; exact (K5 h).2.1⟩
   clear a0 a1 a2 a3 a4 hat hnm HT HC HSz HBads HOks;generalize m.types[k].name=nm at *;generalize qw m l k=r at *;obtain⟨rs,rc⟩:=r;obtain⟨W1,HW1,e0,hs1,hb1⟩:∃W1,Hid (wr.alloc (.cells #[.string nm,.int .i64 kd,.string fo,.string na,.slice p1 p2 p3] 86)=W1)/\W1.cell? ⟨wr.heap.size,0,none⟩=some (.string nm)/\W1.heap.size=wr.heap.size+1/\Below wr.heap.size wr W1:=
    ⟨_,rfl,by simp[go_sem],by simp,(Below.refl _ _).alloc (Nat.le_refl _) _⟩
   have hbl1:=HBl.out.trans (hb1.mono HBl.out.size);obtain⟨⟨x0,x1,x2⟩,hbw1,hsz1⟩:=HBox.out _ hbl1;have HBl1:=zd hbl1;have HBw1:=zd hbw1;have HB1:=zd hb1;clear hbl1 hbw1 hb1;have hBw:w.heap.size<wr.heap.size:=by omega
   go_wp2_with fail;rw[HW1.out];refine (HC2.out _ HBw1.out).mono ?_;rintro e w2 ⟨rfl,hb2⟩;have hbl2:=HBl1.out.trans (hb2.mono HBl1.out.size);have e1:=(hb2.cell (p:=⟨wr.heap.size,0,none⟩) (by show wr.heap.size<_; omega)).trans e0;have hrw:=HB1.out.trans (hb2.mono HB1.out.size);have HOwn2:=zd (qs HOwn.out hrw);have HOwnD2:=zd (qs HOwnD.out hrw);have hs2:wr.heap.size<w2.heap.size:=by have:=hb2.size; omega
   have HBl2:=zd hbl2;clear c0 c1 c2 x0 x1 x2 hb2 hbl2 hrw HC2 HOwn HOwnD d0 d1 d2 d3 d4 e0 HB1 HW1 HBl1 HBw1;have hw2:w.heap.size+1<=w2.heap.size:=by omega
   by_cases hc:rc=0
   ·subst hc
    have HZ:=zd (HOk.out rfl);clear HOk HBad;go_wp2_with fail;refine (qM nm _ HNz.out).mono ?_;rintro e w3 ⟨rfl,hb3⟩;have hbl3:=HBl2.out.trans (hb3.mono HBl2.out.size);have hown3:=qs HOwn2.out hb3;have HOwnD3:=zd (qs HOwnD2.out hb3);have hw3:w.heap.size+1<=w3.heap.size:=Nat.le_trans hw2 hb3.size;have HBl3:=zd hbl3;clear e1 hb3 hbl3 HOwn2 HOwnD2 HBl2;go_wp2_with (at_builtin; refine wpList_append_lies _ rfl _ _ 23 rfl (w.heap.size+1) 74 i1 (.agg #[.string ⟨#[]⟩,.string ⟨#[]⟩]) 2 32 Tryz.underlying23 hj hz3 hz4 hz5 rfl (by decide) _ _ _ rfl (hown3.alloc _) ⟨w3.heap.size,0,none⟩ 1 1 [.string nm,.string rs] rfl rfl ?c1 ?c2 (by decide) ?c3 ?c4 ?c5 (w3.heap.size+1) ?c6 ?_)
    case c1=>exact cell_two_new _ _ _ _
    case c2=>
     intro u hu;simp at hu
     rcases hu with rfl|rfl <;> rfl
    case c3=>have:=HLe.out; unfold maxLen; omega
    case c4=>have:=HLe.out; omega
    case c5=>simp; omega
    case c6=>simp
    intro g cap w4 hown4 hgrow hat hlt4;have hrow:=vK hown3;have HL4:Hid (Below w0.heap.size w0 w4):=(HBl3.out.alloc (by omega) (.cells #[.string nm,.string rs] 74)).grown hgrow (by simp; omega) (fun j hj=>by have:=hrow j hj; omega);have HO4:Hid (w4.ownsRow (w.heap.size+1) 74 2 (.slice (some ⟨g,0,none⟩) ((qG m l k).length+1) cap) (qG m l (k+1)).length (ZV (qG m l (k+1)))):=by
     show w4.ownsRow _ _ _ _ _ _;rw[HZ.out.1,zbH,List.length_append];exact hown4
    have HD4:Hid (w4.ownsRow (w.heap.size+1) 51 2 u7 (qp m l (k+1)).length (zN (qp m l (k+1)))):=by
     show w4.ownsRow _ _ _ _ _ _;rw[HZ.out.2];exact ZW (HOwnD3.out.alloc _) hgrow (fun j hj hv=>HPar.out j hv hj)
    have HP4:Hid (jQ (.slice (some ⟨g,0,none⟩) ((qG m l k).length+1) cap) u7):=(HPar.out.symm.grow (HOwnD3.out.alloc (.cells #[.string nm,.string rs] 74)) hat (by simp)).symm;clear hown4 hgrow hrow hown3 hat hlt4;go_wp2_with fail;exact⟨⟨k+1,by omega,by go_num,HO4.out,HD4.out,HP4.out,HL4.out⟩,by simp[intOf]; omega⟩
   ·have hc':(rc != 0)=true:=by simp[hc]
    have HZ:=zd (HBad.out hc);clear HOk HBad hc;go_wp2_with fail;refine (zbp nm rc _ HNz.out).mono ?_;rintro e w3 ⟨rfl,hb3⟩;have hbl3:=HBl2.out.trans (hb3.mono HBl2.out.size);have HOwn3:=zd (qs HOwn2.out hb3);have hownD3:=qs HOwnD2.out hb3;have hw3:w.heap.size+1<=w3.heap.size:=Nat.le_trans hw2 hb3.size;have HBl3:=zd hbl3;clear e1 hb3 hbl3 HOwn2 HOwnD2 HBl2;go_wp2_with (at_builtin; refine wpList_append_lies _ rfl _ _ 27 rfl (w.heap.size+1) 51 i0 (.agg #[.string ⟨#[]⟩,.int .i64 0]) 2 24 Tryz.underlying27 hi hz0 hz1 hz2 rfl (by decide) _ _ _ rfl (hownD3.alloc _) ⟨w3.heap.size,0,none⟩ 1 1 [.string nm,.int .i64 rc] rfl rfl ?c1 ?c2 (by decide) ?c3 ?c4 ?c5 (w3.heap.size+1) ?c6 ?_)
    case c1=>exact cell_two_new _ _ _ _
    case c2=>
     intro u hu;simp at hu
     rcases hu with rfl|rfl <;> rfl
    case c3=>have:=HLeD.out; unfold maxLen; omega
    case c4=>have:=HLeD.out; omega
    case c5=>simp; omega
    case c6=>simp
    intro g cap w4 hown4 hgrow hat hlt4;have hrow:=vK hownD3;have HL4:Hid (Below w0.heap.size w0 w4):=(HBl3.out.alloc (by omega) (.cells #[.string nm,.int .i64 rc] 51)).grown hgrow (by simp; omega) (fun j hj=>by have:=hrow j hj; omega);have HD4:Hid (w4.ownsRow (w.heap.size+1) 51 2 (.slice (some ⟨g,0,none⟩) ((qp m l k).length+1) cap) (qp m l (k+1)).length (zN (qp m l (k+1)))):=by
     show w4.ownsRow _ _ _ _ _ _;rw[HZ.out.2,Zz,List.length_append];exact hown4
    have HO4:Hid (w4.ownsRow (w.heap.size+1) 74 2 u6 (qG m l (k+1)).length (ZV (qG m l (k+1)))):=by
     show w4.ownsRow _ _ _ _ _ _;rw[HZ.out.1];exact ZW (HOwn3.out.alloc _) hgrow (fun j hj hv=>HPar.out j hj hv)
    have HP4:Hid (jQ u6 (.slice (some ⟨g,0,none⟩) ((qp m l k).length+1) cap)):=HPar.out.grow (HOwn3.out.alloc (.cells #[.string nm,.int .i64 rc] 51)) hat (by simp);clear hown4 hgrow hrow hownD3 hat hlt4;go_wp2_with fail;exact⟨⟨k+1,by omega,by go_num,HO4.out,HD4.out,HP4.out,HL4.out⟩,by simp[intOf]; omega⟩
  ·have hnl:¬(k:Int)<(m.types.length:Int):=by omega
   have hke:k=m.types.length:=by omega
   subst hke;have hl100:(qG m l m.types.length).length<=100:=Nat.le_trans (Yh _ _ _) (by omega);have HSort:=zd (zhI HOwn.out hl100 (HOks.out _) (Xv (Nat.le_refl _)));clear HT HC c0 c1 c2;go_wp2_with fail;refine HSort.out.mono ?_;rintro e w3 ⟨rfl,⟨l',hperm,hrise,hsl⟩,hgrow⟩;have hownD3:=ZW HOwnD.out hgrow (fun j hj hv=>HPar.out j hv hj);have hbl3:=Below.grown HBl.out hgrow (by omega) (fun j hj=>by have:=vK HOwn.out j hj; omega);obtain⟨_,hbw3,_⟩:=HBox.out _ hbl3;have hle:=zgI hperm hrise;rw[hle] at hsl;have HFin1:=zd hsl;have HFin2:=zd (kN hownD3 (Nat.le_trans (Xi _ _ _) (by unfold maxLen; omega)) (HBads.out _));have HB3:=zd hbw3;clear HOwn HOwnD HPar hownD3 hbl3 hbw3 hperm hrise hsl hgrow hle HSort;go_wp2_with fail;go_ret2;exact⟨_,_,rfl,HFin1.out.imp (fun b hb=>⟨by omega,hb.2⟩) (fun _ _ _ _ _ h=>h),HFin2.out.imp (fun b hb=>⟨by omega,hb.2⟩) (fun _ _ _ _ _ h=>h),HB3.out⟩
theorem zib {α β:Type} (f:α->β) {S:Nat->Prop} {P:β->Nat->Nat->Prop} {c:Nat} {l:List α} {v:Value} (h:ze S (fun x=>P (f x)) c l v):ze S P c (l.map f) v:=by
 obtain⟨a,cap,rfl,⟨h1,h2⟩,h3⟩:=h;refine⟨a,cap,by rw[List.length_map],⟨by rw[List.length_map]; exact h1,by rw[List.length_map]; exact h2⟩,?_⟩;rw[List.length_map];refine h3.imp_right ?_;rintro ⟨b,o,rfl,hb,hr⟩;refine⟨b,o,rfl,hb,qA.mk fun i hi=>?_⟩;rw[List.getElem_map];exact hr.get i (by simpa using hi)
def FnS (B:Nat) (v u:Value) (W:World) (b:Nat):Prop:=(B<=b/\b<W.heap.size)/\v.ownBlock≠some b/\u.ownBlock≠some b
def Yj (y:Sy):Value:=.agg #[.string y.1.name,Vt y,.string y.1.result]
theorem Q6 {B:Nat} {v u:Value} {W W':World} {g:Sg} {x:Value} (h:qB (FnS B v u W) W g x) (hb:Below W.heap.size W W'):qB (FnS B v u W') W' g x:=
 h.keep ⟨fun b hb'=>hb.block b hb'.1.2,fun _ hb'=>⟨⟨hb'.1.1,Nat.lt_of_lt_of_le hb'.1.2 hb.size⟩,hb'.2⟩⟩
theorem K8 {B:Nat} {v u:Value} {W W':World} {g:Sg} {x:Value} {k n c H:Nat} (h:qB (FnS B v u W) W g x) (hg:W.grownBy W' v.ownBlock) (hat:v.ownBlock=some k\/k=H) (hH:W.heap.size<=H):qB (FnS B (.slice (some ⟨k,0,none⟩) n c) u W') W' g x:=
 h.keep ⟨fun b hb=>hg.block b hb.1.2 (fun e=>hb.2.1 e.symm),fun b hb=>⟨⟨hb.1.1,Nat.lt_of_lt_of_le hb.1.2 hg.size⟩,fun e=>by
  have e':k=b:=by simpa [Value.ownBlock] using e
  subst e'
  rcases hat with h1|h1
  ·exact hb.2.1 h1
  ·have:=hb.1.2; omega,hb.2.2⟩⟩
theorem zfk {B:Nat} {v u:Value} {W W':World} {g:Sg} {x:Value} {k n c H:Nat} (h:qB (FnS B v u W) W g x) (hg:W.grownBy W' u.ownBlock) (hat:u.ownBlock=some k\/k=H) (hH:W.heap.size<=H):qB (FnS B v (.slice (some ⟨k,0,none⟩) n c) W') W' g x:=
 h.keep ⟨fun b hb=>hg.block b hb.1.2 (fun e=>hb.2.2 e.symm),fun b hb=>⟨⟨hb.1.1,Nat.lt_of_lt_of_le hb.1.2 hg.size⟩,hb.2.1,fun e=>by
  have e':k=b:=by simpa [Value.ownBlock] using e
  subst e'
  rcases hat with h1|h1
  ·exact hb.2.2 h1
  ·have:=hb.1.2; omega⟩⟩
theorem zic (n r:ByteArray) (a:Option Addr) (c d:Nat):∀u∈([.string n,.slice a c d,.string r]:List Value),u.oneCell'=true:=by
 intro u hu;simp at hu
 rcases hu with rfl|rfl|rfl <;> rfl
theorem zfl (w:World) (a b c:Value) (t:TypeId):∀j u,([a,b,c]:List Value)[j]? = some u->(w.alloc (.cells #[a,b,c] t)).cell? ((⟨w.heap.size,0,none⟩:Addr).add j)=some u:=
 World.news_of_block (cs:=#[a,b,c]) (t:=t) (fr:=(0,0)) (heap_alloc_new w _)
theorem zgL {S0 S:Nat->Prop} {W:World} {l:List Sy} {v:Value} (h:ze S0 (zia W) 3 l v) (hS:∀b,S0 b->S b) (hp:∀y∈l,qB S W y.1 (Yj y)):ze S (ju S W) 3 (l.map Prod.fst) v:=by
 obtain⟨a,cap,rfl,hlen,h3⟩:=h;refine zib Prod.fst ⟨a,cap,rfl,hlen,h3.imp_right ?_⟩;rintro ⟨b,o,rfl,hb,hr⟩;refine⟨b,o,rfl,hS b hb,qA.mk fun i hi=>?_⟩;obtain⟨c0,c1,c2⟩:=hr.get i hi;obtain⟨vp,e,z1,z2,hsl⟩:=hp _ (List.getElem_mem hi);have e':[Value.string l[i].1.name,Vt l[i],.string l[i].1.result]=[.string l[i].1.name,vp,.string l[i].1.result]:=congrArg Array.toList (Value.agg.inj e);injection e' with _ e'
 injection e' with e' _
 subst e';exact⟨⟨c0,z1⟩,⟨_,c1,hsl⟩,c2,z2⟩
theorem zfm {l:List Sy} (h:Z8 Sg.name (l.map Prod.fst)):Z8 jP l:=by
 unfold Z8 at *;rw[List.pairwise_map] at h;exact h
theorem zfn {l:List Sy} (h:xN jP l):xN Sg.name (l.map Prod.fst):=by
 unfold xN at *;rw[List.pairwise_map];exact h
theorem zgM (S:Nat->Prop) (m:Mo) (l:List Im) (vm vl:Value) (w:World) (hS:∀b,S b->b<w.heap.size) (hm:qT S w m vm) (hl:ze S (yd S w) 4 l vl) (hz:∀i∈l,zH i.face) (hty:∀f∈m.types,zf f.name=true/\zl f.is 1=0) (h24:m.types.length<=24) (hf24:m.funcs.length<=24) (hfu:∀f∈m.funcs,JJ f) :
  Calls Tryz.prog 19 #[vm,vl] w fun e w'=>∃u v d,e=.returned (.tuple #[.agg #[u,v],d])/\qC (fun b=>w.heap.size<=b/\b<w'.heap.size) w' ⟨xT m l m.types.length,yJ m l m.funcs.length⟩ (.agg #[u,v])/\ze (fun b=>w.heap.size<=b/\b<w'.heap.size) (xp w') 2 (qJ m l m.funcs.length) d/\Below w.heap.size w w':=by
 have hn8:∀f∈m.funcs,f.name.size<=8:=fun f hf=>xi (hfu f hf).1
 have HTs:Hid (∀W,Below w.heap.size w W->Calls Tryz.prog 55 #[vm,vl] W fun e w'=>∃u v,e=.returned (.tuple #[u,v])/\ze (fun b=>W.heap.size<=b/\b<w'.heap.size) (jp w') 2 (xT m l m.types.length) u/\ze (fun b=>W.heap.size<=b/\b<w'.heap.size) (xp w') 2 (qp m l m.types.length) v/\Below W.heap.size W w'):=fun W hW=>
  K7 S m l vm vl W (fun b hb=>Nat.lt_of_lt_of_le (hS b hb) hW.size) (hm.keep (Keeps.below hW hS)) (qd (Keeps.below hW hS) hl) hz hty h24
 have HC:Hid (∀W k,k<m.funcs.length->Below w.heap.size w W->Calls Tryz.prog 56 #[vm,vl,.int .i64 (k:Nat)] W (Yg W (vh m l k) (qg m l k))):=fun W k hk hW=>
  zcV S m l k vm vl W (fun b hb=>Nat.lt_of_lt_of_le (hS b hb) hW.size) (hm.keep (Keeps.below hW hS)) (qd (Keeps.below hW hS) hl) hz (fun f hf=>(hty f hf).2) (by unfold reachBytes; omega) hfu hk
 obtain⟨vu,vty,vf,rfl,hu,hts,hf⟩:=hm;have HF:=zd hf;obtain⟨u1,u2,u3,rfl⟩:=hu.slice;obtain⟨t1,t2,t3,rfl⟩:=hts.slice;obtain⟨f1,f3,rfl⟩:=hf.is;obtain⟨la,ln,lc,rfl⟩:=hl.slice;obtain⟨w0,hwe,hs0,hA,q0,q1,q2,y0,y1,z0,z1⟩:∃w0,(w.alloc (.cells #[.slice u1 u2 u3,.slice t1 t2 t3,.slice f1 m.funcs.length f3] 41)).alloc (.cells #[.slice none 0 0,.slice none 0 0] 26)=w0/\w0.heap.size=w.heap.size+2/\Below w.heap.size w w0/\
   w0.cell? ⟨w.heap.size,0,none⟩=some (.slice u1 u2 u3)/\w0.cell? ⟨w.heap.size,1,none⟩=some (.slice t1 t2 t3)/\w0.cell? ⟨w.heap.size,2,none⟩=some (.slice f1 m.funcs.length f3)/\
   w0.cell? ⟨w.heap.size+1,0,none⟩=some (.slice none 0 0)/\w0.cell? ⟨w.heap.size+1,1,none⟩=some (.slice none 0 0)/\w0.frozen? ⟨w.heap.size+1,0,none⟩=false/\w0.frozen? ⟨w.heap.size+1,1,none⟩=false:=
  ⟨_,rfl,by simp,((Below.refl _ _).alloc (Nat.le_refl _) _).alloc (by simp) _,by simp[go_sem],by simp[go_sem],by simp[go_sem],by simp[go_sem],by simp[go_sem],by simp[go_sem],by simp[go_sem]⟩
 have HBox:Hid (∀W,Below w0.heap.size w0 W->(W.cell? ⟨w.heap.size,0,none⟩=some (.slice u1 u2 u3)/\W.cell? ⟨w.heap.size,1,none⟩=some (.slice t1 t2 t3)/\W.cell? ⟨w.heap.size,2,none⟩=some (.slice f1 m.funcs.length f3))/\Below w.heap.size w W/\(W.cell? ⟨w.heap.size+1,0,none⟩=some (.slice none 0 0)/\W.cell? ⟨w.heap.size+1,1,none⟩=some (.slice none 0 0)/\W.frozen? ⟨w.heap.size+1,0,none⟩=false/\W.frozen? ⟨w.heap.size+1,1,none⟩=false)):=fun W h=>by
  have l0:w.heap.size<w0.heap.size:=by omega
  have l1:w.heap.size+1<w0.heap.size:=by omega
  exact⟨⟨(h.cell (p:=⟨w.heap.size,0,none⟩) l0).trans q0,(h.cell (p:=⟨w.heap.size,1,none⟩) l0).trans q1,(h.cell (p:=⟨w.heap.size,2,none⟩) l0).trans q2⟩,hA.trans (h.mono hA.size),(h.cell (p:=⟨w.heap.size+1,0,none⟩) l1).trans y0,(h.cell (p:=⟨w.heap.size+1,1,none⟩) l1).trans y1,(h.frozen (p:=⟨w.heap.size+1,0,none⟩) l1).trans z0,(h.frozen (p:=⟨w.heap.size+1,1,none⟩) l1).trans z1⟩
 have HA:=zd hA;have HWe:=zd hwe;have HBads:=zd (Y8 (m:=m) (l:=l) hn8);have HFu:Hid (∀k (hk:k<m.funcs.length),(m.funcs[k]).name.size<=281474976710656):=fun k hk=>by have:=hn8 _ (List.getElem_mem hk); omega
 clear hu hts hf hl hwe hA q0 q1 q2 y0 y1 z0 z1 hz hty hfu hn8;obtain⟨i0,hi,hz0,hz1,hz2⟩:=info_parts XJ;obtain⟨i1,hj,hz3,hz4,hz5⟩:=info_parts zcQ;go_enter Tryz.func19,Tryz.ntmps19;go_wp2_with fail;rw[HWe.out];clear HWe;refine (HTs.out _ HA.out).mono ?_;rintro e w1 ⟨tu,tv,rfl,hkn,_,hb1⟩;obtain⟨ta,tn,tc,rfl⟩:=hkn.slice;have HKn:=zd hkn;have HB1:=zd hb1;have hsz1:=hb1.size;obtain⟨⟨c0,c1,c2⟩,_,_⟩:=HBox.out w1 hb1;clear hkn hb1 HTs;go_wp2_with fail
 go_loopw [8,9,23] (fun v u i wr=>∃(k:Nat) (ys:List Sy),k<=m.funcs.length/\i=.int .i64 k/\ys.map Prod.fst=xU m l k/\wr.ownsRow w1.heap.size 76 3 v ys.length (Zk ys)/\(∀y∈ys,qB (FnS w1.heap.size v u wr) wr y.1 (Yj y))/\wr.ownsRow w1.heap.size 51 2 u (qJ m l k).length (zN (qJ m l k))/\jQ v u/\Below w1.heap.size w1 wr) (fun _ _ i _=>m.funcs.length - (intOf i).toNat)
 case atStart=>exact⟨0,[],Nat.zero_le _,rfl,rfl,World.ownsRow_nil _ _ _ _,(fun y hy=>by cases hy),World.ownsRow_nil _ _ _ _,(fun j hj=>by cases hj),Below.refl _ _⟩
 case round=>
  clear c0 c1 c2;obtain⟨k,ys,hk,rfl,hys,hown,hall,hownD,hpar,hbl⟩:=hrel;obtain⟨⟨c0,c1,c2⟩,hbw,g0,g1,g2,g3⟩:=HBox.out wr (HB1.out.trans (hbl.mono hsz1));have hyl:ys.length<=24:=by
   have:=Ji m l k;rw[<- hys,List.length_map] at this;omega
  have HYs:=zd hys;have HOwn:=zd hown;have HAll:=zd hall;have HOwnD:=zd hownD;have HPar:=zd hpar;have HBl:=zd hbl;have HBw:=zd hbw;have hszr:=hbl.size;clear hys hown hall hownD hpar hbl hbw
  by_cases hlt:k<m.funcs.length
  ·have hlt':(k:Int)<(m.funcs.length:Int):=by omega
   obtain⟨_,b,off,rfl,hb,hat⟩:=HF.out.at hlt;obtain⟨vp1,vp2,vp3,kd,fo,na,p1,p2,p3,ke,ne,fe,se,ve1,ve2,ve3,a0,a1,a2,a3,a4,a5,a6,a7,a8,a9,a10,a11,_⟩:=Q3 hat;have hbk:=hS b hb;have d0:=(HBw.out.cell (p:=⟨b,off+k * 12,none⟩) hbk).trans a0;have d1:=(HBw.out.cell (p:=⟨b,off+k * 12+1,none⟩) hbk).trans a1;have d2:=(HBw.out.cell (p:=⟨b,off+k * 12+2,none⟩) hbk).trans a2;have d3:=(HBw.out.cell (p:=⟨b,off+k * 12+3,none⟩) hbk).trans a3;have d4:=(HBw.out.cell (p:=⟨b,off+k * 12+4,none⟩) hbk).trans a4;have d5:=(HBw.out.cell (p:=⟨b,off+k * 12+5,none⟩) hbk).trans a5;have d6:=(HBw.out.cell (p:=⟨b,off+k * 12+6,none⟩) hbk).trans a6;have d7:=(HBw.out.cell (p:=⟨b,off+k * 12+7,none⟩) hbk).trans a7;have d8:=(HBw.out.cell (p:=⟨b,off+k * 12+8,none⟩) hbk).trans a8;have d9:=(HBw.out.cell (p:=⟨b,off+k * 12+9,none⟩) hbk).trans a9;have d10:=(HBw.out.cell (p:=⟨b,off+k * 12+10,none⟩) hbk).trans a10;have d11:=(HBw.out.cell (p:=⟨b,off+k * 12+11,none⟩) hbk).trans a11;have HC2:=zd (fun W=>HC.out W k hlt);have hnm:j9 m k=m.funcs[k].name:=Y6 hlt;have HNz:=zd (HFu.out k hlt);have HLeD:=zd (Y7 m l k);have HOk:Hid (qg m l k=0->xU m l (k+1)=xU m l k++[vh m l k]/\qJ m l (k+1)=qJ m l k):=fun h=>⟨(zbF h).1,(zbF h).2.1⟩
   have HBad:Hid (qg m l k≠0->xU m l (k+1)=xU m l k/\qJ m l (k+1)=qJ m l k++[⟨m.funcs[k].name,qg m l k⟩]):=fun h=>⟨(K6 h).1,by rw[<- hnm]; exact (K6 h).2.1⟩
   clear a0 a1 a2 a3 a4 a5 a6 a7 a8 a9 a10 a11 hat hnm HF HC HFu HBads;generalize m.funcs[k].name=nm at *;generalize m.funcs[k].var=vr at *;obtain⟨W1,HW1,e0,hs1,hb1⟩:∃W1,Hid (wr.alloc (.cells #[.string nm,.string vr,.slice vp1 vp2 vp3,.int .i64 kd,.string fo,.string na,.slice p1 p2 p3,.int .i64 ke,.int .i64 ne,.string fe,.string se,.slice ve1 ve2 ve3] 72)=W1)/\W1.cell? ⟨wr.heap.size,0,none⟩=some (.string nm)/\W1.heap.size=wr.heap.size+1/\Below wr.heap.size wr W1:=
    ⟨_,rfl,by simp[go_sem],by simp,(Below.refl _ _).alloc (Nat.le_refl _) _⟩
   have HB1r:=zd hb1;have HBw1:=zd (HBw.out.trans (hb1.mono HBw.out.size));have hBw:w.heap.size<wr.heap.size:=by omega
   clear hb1;go_wp2_with fail;rw[HW1.out];refine (HC2.out _ HBw1.out).mono ?_;rintro e w2 ⟨xa,xn,xc,rfl,hsg,hb2⟩;generalize vh m l k=og at *;generalize qg m l k=oc at *;generalize hsn:og.name=sn at *;generalize hsr:og.result=sr at *;obtain⟨W5,HW5,hb5,hs5,s0,s1,s2⟩:∃W5,Hid (w2.alloc (.cells #[.string sn,.slice xa xn xc,.string sr] 76)=W5)/\Below w2.heap.size w2 W5/\W5.heap.size=w2.heap.size+1/\W5.cell? ⟨w2.heap.size,0,none⟩=some (.string sn)/\W5.cell? ⟨w2.heap.size,1,none⟩=some (.slice xa xn xc)/\W5.cell? ⟨w2.heap.size,2,none⟩=some (.string sr):=
    ⟨_,rfl,(Below.refl _ _).alloc (Nat.le_refl _) _,by simp,by simp[go_sem],by simp[go_sem],by simp[go_sem]⟩
   have hb15:=hb2.trans (hb5.mono hb2.size);have hbr5:Below wr.heap.size wr W5:=HB1r.out.trans (hb15.mono HB1r.out.size);have e1:=(hb15.cell (p:=⟨wr.heap.size,0,none⟩) (by show wr.heap.size<_; omega)).trans e0;have hlow:=HB1r.out.size;have HSg:Hid (qB (FnS w1.heap.size u8 u9 W5) W5 og (.agg #[.string sn,.slice xa xn xc,.string sr])):=hsg.keep ⟨fun b hb=>hb5.block b hb.2,fun b hb=>⟨⟨by omega,Nat.lt_of_lt_of_le hb.2 hb5.size⟩,fun e=>by have:=(zk HOwn.out b e).2; omega,fun e=>by have:=(zk HOwnD.out b e).2; omega⟩⟩;have HAll5:Hid (∀y∈ys,qB (FnS w1.heap.size u8 u9 W5) W5 y.1 (Yj y)):=fun y hy=>Q6 (HAll.out y hy) hbr5
   have HOwn5:=zd (qs HOwn.out hbr5);have HOwnD5:=zd (qs HOwnD.out hbr5);have HBl5:=zd (HBl.out.trans (hbr5.mono hszr));have hsz5:w1.heap.size<=W5.heap.size:=HBl5.out.size;have HSn:=zd hsn;have HSr:=zd hsr;clear hs5 hsn hsr hsg hb2 hb5 hb15 hbr5 e0 HAll HOwn HOwnD HBl HB1r HC2 c0 c1 c2 g0 g1 g2 g3 d0 d1 d2 d3 d4 d5 d6 d7 d8 d9 d10 d11 hlow
   by_cases hc:oc=0
   ·subst hc
    have HZ:=zd (HOk.out rfl);have hown5:=HOwn5.out;clear HOk HBad e1;go_wp2_with (first|(rw[HW5.out]; clear HW5)|(at_builtin; refine wpList_append_lies _ rfl _ _ 24 rfl w1.heap.size 76 i1 (.agg #[.string ⟨#[]⟩,.slice none 0 0,.string ⟨#[]⟩]) 3 56 Tryz.underlying24 hj hz3 hz4 hz5 rfl (by decide) _ _ _ rfl (hown5.alloc _) ⟨W5.heap.size,0,none⟩ 1 1 [.string sn,.slice xa xn xc,.string sr] rfl rfl (zfl _ _ _ _ _) (zic _ _ _ _ _) (by decide) (by unfold maxLen; omega) (by omega) (by simp; omega) (W5.heap.size+1) (by simp) ?_));intro g7 cap7 w7 hown7 hgrow7 hat7 hlt7;have h06:Below W5.heap.size W5 (W5.alloc (.cells #[.string sn,.slice xa xn xc,.string sr] 76)):=(Below.refl _ _).alloc (Nat.le_refl _) _;have hrow:=vK hown5;have hs6:(W5.alloc (.cells #[.string sn,.slice xa xn xc,.string sr] 76)).heap.size=W5.heap.size+1:=by simp
    have HL7:Hid (Below w1.heap.size w1 w7):=(HBl5.out.alloc (by omega) (.cells #[.string sn,.slice xa xn xc,.string sr] 76)).grown hgrow7 (by rw[hs6]; omega) (fun j hj=>hrow j hj);have HYs7:Hid ((ys++[(og,xa,xn,xc)]).map Prod.fst=xU m l (k+1)):=by
     show _=_;rw[List.map_append,HYs.out,HZ.out.1]; rfl
    have HO7:Hid (w7.ownsRow w1.heap.size 76 3 (.slice (some ⟨g7,0,none⟩) (ys.length+1) cap7) (ys++[((og,xa,xn,xc):Sy)]).length (Zk (ys++[((og,xa,xn,xc):Sy)]))):=by
     show w7.ownsRow _ _ _ _ _ _;rw[zbG,List.length_append];show w7.ownsRow _ _ _ _ _ (Zk ys++[.string og.name,.slice xa xn xc,.string og.result]);rw[HSn.out,HSr.out];exact hown7
    have HA7:Hid (∀y∈ys++[((og,xa,xn,xc):Sy)],qB (FnS w1.heap.size (.slice (some ⟨g7,0,none⟩) (ys.length+1) cap7) u9 w7) w7 y.1 (Yj y)):=fun y hy=>by
     rcases List.mem_append.1 hy with h|h
     ·exact K8 (Q6 (HAll5.out y h) h06) hgrow7 hat7 (by rw[hs6]; exact Nat.le_refl _)
     ·rw[List.mem_singleton.1 h]
      have:=K8 (Q6 HSg.out h06) hgrow7 hat7 (n:=ys.length+1) (c:=cap7) (by rw[hs6]; exact Nat.le_refl _);show qB _ _ og (.agg #[.string og.name,.slice xa xn xc,.string og.result]);rw[HSn.out,HSr.out];exact this
    have HD7:Hid (w7.ownsRow w1.heap.size 51 2 u9 (qJ m l (k+1)).length (zN (qJ m l (k+1)))):=by
     show w7.ownsRow _ _ _ _ _ _;rw[HZ.out.2];exact ZW (HOwnD5.out.alloc _) hgrow7 (fun j hj hv=>HPar.out j hv hj)
    have HP7:Hid (jQ (.slice (some ⟨g7,0,none⟩) (ys.length+1) cap7) u9):=(HPar.out.symm.grow (HOwnD5.out.alloc (.cells #[.string sn,.slice xa xn xc,.string sr] 76)) hat7 (by simp)).symm;clear hown7 hgrow7 hat7 hlt7 h06 hrow hown5 hs6 s0 s1 s2;go_wp2_with fail;exact⟨⟨k+1,ys++[(og,xa,xn,xc)],by omega,by go_num,HYs7.out,HO7.out,HA7.out,HD7.out,HP7.out,HL7.out⟩,by simp[intOf]; omega⟩
   ·have hc':(oc != 0)=true:=by simp[hc]
    have HZ:=zd (HBad.out hc);clear HOk HBad hc s0 s1 s2 HSg;go_wp2_with (rw[HW5.out]; clear HW5);refine (qM nm _ HNz.out).mono ?_;rintro e w6 ⟨rfl,hb6⟩;have HAll6:Hid (∀y∈ys,qB (FnS w1.heap.size u8 u9 w6) w6 y.1 (Yj y)):=fun y hy=>Q6 (HAll5.out y hy) hb6
    have HOwn6:=zd (qs HOwn5.out hb6);have hownD6:=qs HOwnD5.out hb6;have hsz6:w1.heap.size<=w6.heap.size:=Nat.le_trans hsz5 hb6.size;have HBl6:=zd (HBl5.out.trans (hb6.mono hsz5));clear hb6 HAll5 HOwn5 HOwnD5 HBl5 e1;go_wp2_with (at_builtin; refine wpList_append_lies _ rfl _ _ 27 rfl w1.heap.size 51 i0 (.agg #[.string ⟨#[]⟩,.int .i64 0]) 2 24 Tryz.underlying27 hi hz0 hz1 hz2 rfl (by decide) _ _ _ rfl (hownD6.alloc _) ⟨w6.heap.size,0,none⟩ 1 1 [.string nm,.int .i64 oc] rfl rfl (cell_two_new _ _ _ _) (ze8 _ _) (by decide) (by have:=HLeD.out; unfold maxLen; omega) (by have:=HLeD.out; omega) (by simp; omega) (w6.heap.size+1) (by simp) ?_);intro g7 cap7 w7 hown7 hgrow7 hat7 hlt7;have h06:Below w6.heap.size w6 (w6.alloc (.cells #[.string nm,.int .i64 oc] 51)):=(Below.refl _ _).alloc (Nat.le_refl _) _;have hrow:=vK hownD6;have hs6:(w6.alloc (.cells #[.string nm,.int .i64 oc] 51)).heap.size=w6.heap.size+1:=by simp
    have HL7:Hid (Below w1.heap.size w1 w7):=(HBl6.out.alloc (by omega) (.cells #[.string nm,.int .i64 oc] 51)).grown hgrow7 (by rw[hs6]; omega) (fun j hj=>hrow j hj);have HYs7:Hid (ys.map Prod.fst=xU m l (k+1)):=HYs.out.trans HZ.out.1.symm;have HD7:Hid (w7.ownsRow w1.heap.size 51 2 (.slice (some ⟨g7,0,none⟩) ((qJ m l k).length+1) cap7) (qJ m l (k+1)).length (zN (qJ m l (k+1)))):=by
     show w7.ownsRow _ _ _ _ _ _;rw[HZ.out.2,Zz,List.length_append];exact hown7
    have HO7:Hid (w7.ownsRow w1.heap.size 76 3 u8 ys.length (Zk ys)):=ZW (HOwn6.out.alloc _) hgrow7 (fun j hj hv=>HPar.out j hj hv);have HA7:Hid (∀y∈ys,qB (FnS w1.heap.size u8 (.slice (some ⟨g7,0,none⟩) ((qJ m l k).length+1) cap7) w7) w7 y.1 (Yj y)):=fun y hy=>
     zfk (Q6 (HAll6.out y hy) h06) hgrow7 hat7 (by rw[hs6]; exact Nat.le_refl _)
    have HP7:Hid (jQ u8 (.slice (some ⟨g7,0,none⟩) ((qJ m l k).length+1) cap7)):=HPar.out.grow (HOwn6.out.alloc (.cells #[.string nm,.int .i64 oc] 51)) hat7 (by simp);clear hown7 hgrow7 hat7 hlt7 h06 hrow hownD6 hs6;go_wp2_with fail;exact⟨⟨k+1,ys,by omega,by go_num,HYs7.out,HO7.out,HA7.out,HD7.out,HP7.out,HL7.out⟩,by simp[intOf]; omega⟩
  ·have hnl:¬(k:Int)<(m.funcs.length:Int):=by omega
   have hke:k=m.funcs.length:=by omega
   subst hke;have HSort:=zd (zhH HOwn.out (by omega) (zfm (by rw[HYs.out]; exact Xx (Nat.le_refl _))));clear HF HC c0 c1 c2;go_wp2_with fail;refine HSort.out.mono ?_;rintro e w3 ⟨rfl,⟨l',hperm,hrise,hsl⟩,hgrow⟩;have hownD3:=ZW HOwnD.out hgrow (fun j hj hv=>HPar.out j hv hj);have hbl3:=Below.grown HBl.out hgrow hszr (fun j hj=>vK HOwn.out j hj);have hszw3:=hbl3.size;obtain⟨_,hbw3,g0',g1',g2',g3'⟩:=HBox.out w3 (HB1.out.trans (hbl3.mono hsz1));have hle:l'.map Prod.fst=yJ m l m.funcs.length:=zgJ ((hperm.map Prod.fst).trans (by rw[HYs.out])) (zfn hrise);have hall3:∀y∈l',qB (fun b=>w1.heap.size<=b/\b<w3.heap.size) w3 y.1 (Yj y):=fun y hy=>
    (HAll.out y (hperm.subset hy)).keep ⟨fun b hb=>hgrow.block b hb.1.2 (fun e=>hb.2.1 e.symm),fun b hb=>⟨hb.1.1,Nat.lt_of_lt_of_le hb.1.2 hgrow.size⟩⟩
   have hfs:=zgL (S:=fun b=>w1.heap.size<=b/\b<w3.heap.size) hsl (fun b hb=>⟨hb.1.2,hb.2⟩) hall3;rw[hle] at hfs;obtain⟨ra,rn,rcp,hru⟩:=hfs.slice;subst hru;have hds:=kN hownD3 (Nat.le_trans (Y7 _ _ _) (by unfold maxLen; omega)) (HBads.out _);have HFin:Hid (∀W',(∀b,w0.heap.size<=b->b<w3.heap.size->W'.heap[b]? = w3.heap[b]?)->w3.heap.size<=W'.heap.size->qC (fun b=>w.heap.size<=b/\b<W'.heap.size) W' ⟨xT m l m.types.length,yJ m l m.funcs.length⟩ (.agg #[.slice ta tn tc,.slice ra rn rcp])/\ze (fun b=>w.heap.size<=b/\b<W'.heap.size) (xp W') 2 (qJ m l m.funcs.length) u9):=fun W' hk' hsz'=>by
    refine⟨⟨_,_,rfl,vj (S':=fun b=>w.heap.size<=b/\b<W'.heap.size) ⟨fun b hb=>?_,fun b hb=>?_⟩ HKn.out,yO (S':=fun b=>w.heap.size<=b/\b<W'.heap.size) ⟨fun b hb=>hk' b (by omega) hb.2,fun b hb=>by omega⟩ hfs⟩,vw (S':=fun b=>w.heap.size<=b/\b<W'.heap.size) ⟨fun b hb=>hk' b (by omega) hb.2,fun b hb=>by omega⟩ hds⟩
    ·exact (hk' b hb.1 (Nat.lt_of_lt_of_le hb.2 hszw3)).trans (hbl3.block b hb.2)
    ·omega
   have HB3:=zd hbw3;have HSet:Hid (∀W u0 u1,Below w.heap.size w W->Below w.heap.size w ((W.setCell ⟨w.heap.size+1,0,none⟩ u0).setCell ⟨w.heap.size+1,1,none⟩ u1)):=fun W u0 u1 h=>
    (h.setCell (by show w.heap.size<=w.heap.size+1; omega) _).setCell (by show w.heap.size<=w.heap.size+1; omega) _
   clear HOwn HOwnD HPar hownD3 hbl3 hbw3 hperm hrise hsl hgrow hle HSort hall3 hfs hds g0 g1 g2 g3;go_wp2_with fail;refine bodyPost_ret (v:=.tuple #[.agg #[.slice ta tn tc,.slice ra rn rcp],u9]) (by simp[results,Tryz.results19,go_sem,g0',g1']) rfl ?_;obtain⟨hF1,hF2⟩:=HFin.out ((w3.setCell ⟨w.heap.size+1,0,none⟩ (.slice ta tn tc)).setCell ⟨w.heap.size+1,1,none⟩ (.slice ra rn rcp)) (fun b hb _=>by
    rw[Below.heap_setCell _ _ _ _ (by show b≠w.heap.size+1; omega),Below.heap_setCell _ _ _ _ (by show b≠w.heap.size+1; omega)]) (by simp)
   exact⟨_,_,_,rfl,hF1,hF2,HSet.out _ _ _ HB3.out⟩
theorem zdW {pre post:List UInt8} (h1:(42:UInt8) ∉ pre) (h2:(42:UInt8) ∉ post):(pre++42::post).count 42=1:=by
 rw[List.count_append,List.count_cons_self,List.count_eq_zero_of_not_mem h1,List.count_eq_zero_of_not_mem h2]
theorem zdX {pre post:List UInt8} (h1:(42:UInt8) ∉ pre):Lib.indexByte (pre++42::post) 42=(pre.length:Int):=by
 have hge:=Lib.indexByte_ge (pre++42::post) 42;have hne:Lib.indexByte (pre++42::post) 42≠-1:=fun e=>Lib.indexByte_none e pre.length (by simp)
 obtain⟨o,ho⟩:=Int.eq_ofNat_of_zero_le (show 0<=Lib.indexByte (pre++42::post) 42 by omega);obtain⟨hs,hb⟩:=Lib.indexByte_some ho;rw[ho]
 congr 1
 rcases Nat.lt_trichotomy o pre.length with h|h|h
 ·rw[List.getElem?_append_left h] at hs
  exact absurd (List.mem_of_getElem? hs) h1
 ·exact h
 ·exact absurd (show (pre++42::post)[pre.length]? = some 42 by simp) (hb pre.length h)
theorem zco (s new:ByteArray) (pre post:List UInt8) (hs:s.data.toList=pre++42::post) (h1:(42:UInt8) ∉ pre) (h2:(42:UInt8) ∉ post) (hz:s.size<=600) (hn:new.size<=600) (w:World) :
  Calls Tryz.prog 335 #[.string s,.string ⟨#[42]⟩,.string new,.int .i64 1] w fun e w'=>e=.returned (.string ⟨(pre++new.data.toList++post).toArray⟩)/\Below w.heap.size w w':=by
 cases hne:([42]==new.toList) with
 |true=>
  have HE:Hid ((⟨(pre++new.data.toList++post).toArray⟩:ByteArray)=s):=by
   have e:new.toList=[42]:=(beq_iff_eq.1 hne).symm;rw[Lib.toList_data] at e;show _=_;rw[e];have:pre++[42]++post=s.data.toList:=by rw[hs]; simp
   rw[this,Lib.mk_data]
  clear hs;go_enter Tryz.func335,Tryz.ntmps335
  go_wp2
  go_ret;exact⟨by rw[HE.out]; rfl,Below.refl _ _⟩
 |false=>
  have HC:=zE (Any.strings_Count_one (P:=Tryz.prog) (ρ:=Tryz.lays154_ren) { Tryz.lays154 with } s 42 w);have HI:=zE (fun w=>Any.strings_Index_one (P:=Tryz.prog) (ρ:=Tryz.lays154_ren) { Tryz.lays154 with } s 42 w);have HC1:=zE (zdW h1 h2);have HI1:=zE (@zdX pre post h1);have HS:=zE hs;have hp:pre.length<s.size:=by rw[Lib.size_eq,hs,List.length_append,List.length_cons]; omega
  clear hs h1 h2;go_enter Tryz.func335,Tryz.ntmps335;go_wp2_with fail;refine HC.out.mono ?_;rintro e w1 ⟨rfl,rfl⟩;rw[show Lib.countByte s.data.toList 42=1 from by rw[HS.out]; exact HC1.out];go_wp2_with fail;rw[show (s.size:Int)+((new.size:Int) - 1)=((s.size+new.size - 1:Nat):Int) by omega];refine (Any.Builder_Grow_fresh (P:=Tryz.prog) (ρ:=Tryz.lays154_ren) { Tryz.lays154 with } Tryz.Builder_Extra_154 w1.heap.size w1.heap.size (s.size+new.size - 1) _ (Nat.le_refl _) (heap_alloc_new w1 _) (by simp) (by omega)).mono ?_;rintro e w2 ⟨rfl,hb0,hb1⟩;have H2:=zE (Or.inr hb0:Lib.IsBuilder (Tryz.lays154_ren.t 72) (Tryz.lays154_ren.t 5) w1.heap.size w1.heap.size (Lib.byteCells []) w2);have HB2:=zE (((Below.refl w1.heap.size w1).alloc (Nat.le_refl _) _).trans hb1);clear hb0 hb1 HC HC1;go_wp2_with fail;refine wp_loop_rounds 2 ?_;rw[rounds_succ];go_wp2_with fail;refine (Any.strings_Index_one (P:=Tryz.prog) (ρ:=Tryz.lays154_ren) { Tryz.lays154 with } _ 42 _).mono ?_;rintro e w3 ⟨rfl,rfl⟩;rw[HS.out,HI1.out];have hlt:(pre.length:Int)<(s.size:Int):=by omega
  have hle:(pre.length:Int)<=(s.size:Int):=by omega
  have hle1:(pre.length:Int)+1<=(s.size:Int):=by omega
  have h0:(0:Int)<=(pre.length:Int):=by omega
  have h01:(0:Int)<=(pre.length:Int)+1:=by omega
  have HZ:Hid (w1.heap.size<=w3.heap.size):=HB2.out.size;go_wp2_with fail;refine (Any.Builder_WriteString (P:=Tryz.prog) (ρ:=Tryz.lays154_ren) { Tryz.lays154 with } Tryz.Builder_Extra_154 w1.heap.size w1.heap.size _ (s.extract 0 pre.length) _ H2.out (by simp[Lib.byteCells]; omega) HZ.out).mono ?_;rintro e w4 ⟨rfl,h4,hb4⟩;have H4:=zE (Or.inr h4:Lib.IsBuilder (Tryz.lays154_ren.t 72) (Tryz.lays154_ren.t 5) w1.heap.size w1.heap.size _ w4);have HB4:=zE (HB2.out.trans hb4);clear h4 hb4 H2 HB2;go_wp2_with fail;refine (Any.Builder_WriteString (P:=Tryz.prog) (ρ:=Tryz.lays154_ren) { Tryz.lays154 with } Tryz.Builder_Extra_154 w1.heap.size w1.heap.size _ new _ H4.out (by rw[List.length_append,Lib.byteCells_length,Lib.strCells_length,ByteArray.size_extract]; simp; omega) HB4.out.size).mono ?_;rintro e w5 ⟨rfl,h5,hb5⟩;have H5:=zE (Or.inr h5:Lib.IsBuilder (Tryz.lays154_ren.t 72) (Tryz.lays154_ren.t 5) w1.heap.size w1.heap.size _ w5);have HB5:=zE (HB4.out.trans hb5);clear h5 hb5 H4 HB4;go_wp2_with fail;rw[rounds_succ];go_wp2_with fail;refine (Any.Builder_WriteString (P:=Tryz.prog) (ρ:=Tryz.lays154_ren) { Tryz.lays154 with } Tryz.Builder_Extra_154 w1.heap.size w1.heap.size _ (s.extract (pre.length+1) s.size) _ H5.out (by rw[List.length_append,List.length_append,Lib.byteCells_length,Lib.strCells_length,Lib.strCells_length,ByteArray.size_extract,ByteArray.size_extract]; simp; omega) HB5.out.size).mono ?_;rintro e w6 ⟨rfl,h6,hb6⟩;have HX:Hid (Lib.byteCells []++Lib.strCells (s.extract 0 pre.length)++Lib.strCells new++Lib.strCells (s.extract (pre.length+1) s.size)=Lib.byteCells (pre++new.data.toList++post)):=by
   show _=_;rw[Lib.strCells_eq,Lib.strCells_eq,Lib.strCells_eq,<- Lib.byteCells_append,<- Lib.byteCells_append,<- Lib.byteCells_append]
   congr 1
   rw[Lib.extract_data,Lib.extract_to_end,HS.out];simp
  rw[HX.out] at h6;have H6:=zE (Or.inr h6:Lib.IsBuilder (Tryz.lays154_ren.t 72) (Tryz.lays154_ren.t 5) w1.heap.size w1.heap.size _ w6);have HB6:=zE (HB5.out.trans hb6);clear h6 hb6 H5 HB5 HX;go_wp2_with fail;refine (Any.Builder_String_any (P:=Tryz.prog) (ρ:=Tryz.lays154_ren) { Tryz.lays154 with } Tryz.Builder_Extra_154 w1.heap.size w1.heap.size _ w6 H6.out HB6.out.size).mono ?_;rintro e w7 ⟨rfl,hb7⟩;have HB7:=zE (HB6.out.trans hb7);clear hb7
  go_wp2
  go_ret;exact⟨by rw[List.append_assoc]; rfl,HB7.out⟩
end Go.Proofs.YtedpiamfpbdhoaaGreatDoor
