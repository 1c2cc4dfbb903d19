import Derived.Test.YtedpiamfpbdhoaaGreatDoorJFg20
import Derived.Shelf.Spec.SlicesGrow
import Derived.Maps.AppendAt
import Derived.Lib.AppendZeros
set_option maxHeartbeats 40000000
set_option maxRecDepth 100000
namespace Go.Proofs.YtedpiamfpbdhoaaGreatDoor
open Go.RowKit
open Go.Sort (grow putRow mapBlock onCells putCells Holds)
def yz (l:List ByteArray):List (List UInt8):=l.map fun s=>s.data.toList
theorem zfd (d:List (List UInt8)):yz (d.map toB)=d:=by
 unfold yz;rw[List.map_map]
 conv=>rhs; rw[<- List.map_id d]
 exact List.map_congr_left fun x _=>Jh x
theorem jB (l:List ByteArray):(yz l).length=l.length:=List.length_map ..
theorem K0 {w:World} {base g cap:Nat} {l:List ByteArray} (h:w.ownsRow base 9 1 (.slice (some ⟨g,0,none⟩) l.length cap) l.length (vk l)):Holds encStr w g 0 (yz l).toArray:=by
 obtain⟨hx,⟨hv,_⟩|⟨g',cap',cur,hv,hg,hh,h1,h2,h3,h4⟩⟩:=h
 ·cases hv
 ·injection hv with e1 e2 e3
  injection e1 with e1
  injection e1 with e1
  subst e1 e3;intro j hj;have hj':j<l.length:=by simpa [yz] using hj
  have hf:(vk l)[j]? = some (.string l[j]):=by simp[vk,hj']
  rw[<- h4,List.getElem?_take_of_lt (by omega)] at hf;refine⟨?_,Lib.frozen_of_heap hh _⟩;rw[cell_of_row w g (0+j) cur 9 (0,0) hh,Nat.zero_add];have e:encStr (yz l).toArray[j]! = .string l[j]:=by simp[yz,hj',encStr]
  rw[e];simpa using hf
theorem K1 {w:World} {base g cap n k:Nat} {l:List ByteArray} {d:List (List UInt8)} {os:Array Obj} (h:w.ownsRow base 9 1 (.slice (some ⟨g,0,none⟩) l.length cap) l.length (vk l)) (hd:d.length=l.length) (hk:k<=d.length) :
  (grow (putRow encStr (Go.Sort.ahead w n) g 0 d.toArray) os).ownsRow base 9 1 (.slice (some ⟨g,0,none⟩) k cap) k (vk ((d.take k).map toB)):=by
 obtain⟨hx,⟨hv,_⟩|⟨g',cap',cur,hv,hg,hh,h1,h2,h3,h4⟩⟩:=h
 ·cases hv
 ·injection hv with e1 e2 e3
  injection e1 with e1
  injection e1 with e1
  subst e1 e3;have hgl:g<w.heap.size:=by
   rcases Nat.lt_or_ge g w.heap.size with h|h
   ·exact h
   ·rw[Array.getElem?_eq_none h] at hh; cases hh
  refine⟨by simp[vk,hk],Or.inr ⟨g,cap,putCells encStr 0 d.toArray cur,rfl,hg,?_,by omega,h2,by simp[putCells,h3],?_⟩⟩
  ·rw[Go.Sort.heap_grow_old _ _ (by simpa using hgl)]
   show (w.heap.modify g (onCells (putCells encStr 0 d.toArray)))[g]? = _;rw[Array.getElem?_modify,if_pos rfl,hh]; rfl
  ·apply List.ext_getElem?
   intro j
   by_cases hj:j<k
   ·have hc:j<cur.size:=by omega
    rw[List.getElem?_take_of_lt (by omega)];simp[putCells,vk,hc,hj,show j<d.length by omega,encStr,toB]
   ·rw[List.getElem?_eq_none (by rw[List.length_take]; omega),List.getElem?_eq_none (by simp[vk]; omega)]
theorem K2 {w:World} {g n:Nat} {d:Array (List UInt8)} {os:Array Obj}:w.grownBy (grow (putRow encStr (Go.Sort.ahead w n) g 0 d) os) (some g):=by
 refine⟨rfl,rfl,rfl,?_,fun j hj hjg=>?_⟩
 ·simp[grow,putRow,mapBlock]
 ·have hne:g≠j:=fun e=>hjg (by rw[e])
  simp[grow,putRow,mapBlock,Array.getElem?_append,hj,Array.getElem_modify,hne]
theorem zhE {w:World} {base:Nat} {v:Value} {l:List ByteArray} (h:w.ownsRow base 9 1 v l.length (vk l)) (hl:l.length<=100) :
  Calls Tryz.prog 35 #[v] w fun e w'=>e=.returned (.tuple #[])/\w'.ownsRow base 9 1 v l.length (vk ((jX (yz l)).map toB))/\w.grownBy w' v.ownBlock:=by
 by_cases he:l=[]
 ·subst he
  obtain⟨a,cap,rfl⟩:∃a cap,v=.slice a 0 cap:=by
   obtain⟨_,⟨hv,_⟩|⟨g,cap,cur,hv,_⟩⟩:=h
   ·exact⟨_,_,hv⟩
   ·exact⟨_,_,hv⟩
  refine (Tryz.slices_Sort_string_none a cap w).mono ?_;rintro e w' ⟨rfl,rfl⟩;exact⟨rfl,by simpa [jX,yz] using h,⟨rfl,rfl,rfl,Nat.le_refl _,fun _ _ _=>rfl⟩⟩
 ·obtain⟨g,cap,rfl,hg,hgl⟩:=h.form (List.length_pos_iff.2 he)
  have hc:=Tryz.slices_Sort_string g 0 cap (yz l) w (K0 h) hgl (by rw[jB]; omega);rw[jB] at hc;refine hc.mono ?_;rintro e w' ⟨rfl,n,os,rfl⟩;have hs:(jX (yz l)).length=l.length:=by rw[KZ,jB]
  refine⟨rfl,?_,K2⟩;have:=K1 (n:=n) (os:=os) (k:=l.length) h hs (by omega)
  rwa [List.take_of_length_le (by omega)] at this
theorem zdP {w:World} {base:Nat} {v:Value} {l:List ByteArray} (h:w.ownsRow base 9 1 v l.length (vk l)) (hl:l.length<=100) (hs:∀x∈Lib.compact (yz l),x.length<=100) :
  Calls Tryz.prog 36 #[v] w fun e w'=>∃u,e=.returned u/\ze (fun b=>base<=b/\b<w'.heap.size) (zG w') 1 ((Lib.compact (yz l)).map toB) u/\w.grownBy w' v.ownBlock:=by
 have hcl:(Lib.compact (yz l)).length<=l.length:=by rw[<- jB l]; exact Lib.compact_length_le _
 by_cases he:l=[]
 ·subst he
  obtain⟨a,cap,rfl⟩:∃a cap,v=.slice a 0 cap:=by
   obtain⟨_,⟨hv,_⟩|⟨g,cap,cur,hv,_⟩⟩:=h
   ·exact⟨_,_,hv⟩
   ·exact⟨_,_,hv⟩
  refine (Tryz.slices_Compact_string_empty a cap w).mono ?_;rintro e w' ⟨rfl,rfl⟩;exact⟨_,rfl,⟨a,cap,rfl,⟨Nat.zero_le _,Nat.zero_le _⟩,Or.inl rfl⟩,⟨rfl,rfl,rfl,Nat.le_refl _,fun _ _ _=>rfl⟩⟩
 ·obtain⟨g,cap,rfl,hg,hgl⟩:=h.form (List.length_pos_iff.2 he)
  have hcap:l.length<=cap:=by
   obtain⟨_,⟨hv,_⟩|⟨g',cap',cur,hv,_,_,h1,_⟩⟩:=h
   ·cases hv
   ·injection hv with _ _ e3
    subst e3; exact h1
  have hc:=Tryz.slices_Compact_string g 0 cap (yz l) w (K0 h) (by rw[jB]; omega) (by rw[jB]; exact hcap);rw[jB] at hc;refine hc.mono ?_;rintro e w' ⟨rfl,q,rfl⟩;generalize hcd:Lib.compact (yz l)=cd at *;have ho:=K1 (n:=q) (os:=#[]) (k:=cd.length) (d:=cd++List.replicate (l.length - cd.length) []) h (by simp; omega) (by simp);rw[List.take_left' rfl,Go.Sort.grow_empty] at ho;have hg2:=K2 (w:=w) (g:=g) (n:=q) (d:=(cd++List.replicate (l.length - cd.length) []).toArray) (os:=#[]);rw[Go.Sort.grow_empty] at hg2;refine⟨_,rfl,?_,hg2⟩;have hm:(cd.map toB).length=cd.length:=List.length_map ..;rw[<- hm] at ho ⊢;refine zh3 ho (by unfold maxLen; omega) (fun t ht=>?_);obtain⟨x,hx,rfl⟩:=List.mem_map.1 ht;have:=hs x hx;show (toB x).size<=_;have e:(toB x).size=x.length:=by simp[toB,ByteArray.size]
  rw[e]; unfold maxLen; omega
end Go.Proofs.YtedpiamfpbdhoaaGreatDoor
namespace Go.Proofs.YtedpiamfpbdhoaaGreatDoor
open Go.RowKit
theorem Y3:∀(L:List ByteArray) (m m':Mo) (k:Nat),vC L m=.ok m'->m.uses.length<=k/\m.types.length<=k/\m.funcs.length<=k->m'.uses.length<=k+L.length/\m'.types.length<=k+L.length/\m'.funcs.length<=k+L.length
 |[],m,m',k,h,hk=>by
  rw[vC] at h;injection h with h
  subst h;exact hk
 |s::r,m,m',k,h,hk=>by
  rw[vC] at h
  cases hl:xK s with
  |error e=>rw[hl] at h; cases h
  |ok d=>
   rw[hl] at h;have:=Y3 r (kl m d) m' (k+1) h (zcJ hk);rw[List.length_cons];omega
theorem jS (s:ByteArray):zI (zA s)=0/\Zi (zA s):=by
 have h0:zI yV=0:=by decide +kernel
 have hn:Zi yV:=⟨Nat.zero_le _,Nat.zero_le _,Nat.zero_le _⟩
 unfold zA
 by_cases hs:1500<s.size
 ·rw[if_pos hs]; exact⟨h0,hn⟩
 ·rw[if_neg hs]
  have hle:=Jv s
  cases hr:vC (yU s) yV with
  |error e=>exact⟨h0,hn⟩
  |ok m=>
   show zI (if zI m=0 then m else yV)=0/\Zi (if zI m=0 then m else yV)
   by_cases hm:zI m=0
   ·rw[if_pos hm]
    obtain⟨h1,h2,h3⟩:=Y3 _ _ _ 0 hr ⟨Nat.le_refl _,Nat.le_refl _,Nat.le_refl _⟩;exact⟨hm,by unfold reachBytes; omega,by unfold reachBytes; omega,by unfold reachBytes; omega⟩
   ·rw[if_neg hm]; exact⟨h0,hn⟩
theorem zci {s:ByteArray} (h:xX s≠0):zA s=yV:=by
 unfold xX at h;unfold zA
 by_cases hs:1500<s.size
 ·rw[if_pos hs]
 ·rw[if_neg hs] at h ⊢
  cases hr:vC (yU s) yV with
  |error e=>rfl
  |ok m=>
   rw[hr] at h;exact if_neg h
theorem Qx (s:ByteArray):(zA s).uses.length+(zA s).types.length+(zA s).funcs.length<=24:=Qm (jS s).1 (jS s).2
theorem zcj (s:ByteArray):∀u∈(zA s).uses,u.size<=8:=fun u hu=>xi (Vp (jS s).1 u hu)
def Z9 (m:Mo):List ByteArray:=yv m.uses m.uses.length
theorem XK (u:List ByteArray):(Lib.compact (yz ((jX (yz u)).map toB))).map toB=yv u u.length:=by
 rw[zfd]; exact zch u
theorem zck (s:ByteArray) (w:World) :
  Calls Tryz.prog 12 #[.string s] w fun e w'=>∃u,e=.returned u/\ze (fun b=>w.heap.size<=b/\b<w'.heap.size) (zG w') 1 (Z9 (zA s)) u/\Below w.heap.size w w':=by
 have HR:=zd (KK s w);have HN:Hid (xX s≠0->Z9 (zA s)=[]):=fun h=>by rw[zci h]; rfl
 have h24:=Qx s;have HS:Hid (∀x∈Lib.compact (yz ((jX (yz (zA s).uses)).map toB)),x.length<=100):=fun x hx=>by
  have h1:toB x∈yv (zA s).uses (zA s).uses.length:=by
   rw[<- XK]; exact List.mem_map.2 ⟨x,hx,rfl⟩
  have h2:=Xr (zcj s) _ _ h1;have e:(toB x).size=x.length:=by simp[toB,ByteArray.size]
  omega
 have HC:Hid (∀v W,W.ownsRow w.heap.size 9 1 v (zA s).uses.length (vk (zA s).uses)->Calls Tryz.prog 35 #[v] W fun e w'=>e=.returned (.tuple #[])/\w'.ownsRow w.heap.size 9 1 v (zA s).uses.length (vk ((jX (yz (zA s).uses)).map toB))/\W.grownBy w' v.ownBlock):=fun v W h=>zhE h (by omega)
 have HD:Hid (∀v W,W.ownsRow w.heap.size 9 1 v (zA s).uses.length (vk ((jX (yz (zA s).uses)).map toB))->Calls Tryz.prog 36 #[v] W fun e w'=>∃u,e=.returned u/\ze (fun b=>w.heap.size<=b/\b<w'.heap.size) (zG w') 1 (Z9 (zA s)) u/\W.grownBy w' v.ownBlock):=fun v W h=>by
  have hl:((jX (yz (zA s).uses)).map toB).length=(zA s).uses.length:=by rw[List.length_map,KZ,jB]
  rw[<- hl] at h;have:=zdP h (by omega) HS.out;rw[XK] at this;exact this
 clear HS;generalize Z9 (zA s)=res at *;generalize (jX (yz (zA s).uses)).map toB=srt at *;generalize zA s=m at *;generalize xX s=er at *;go_enter Tryz.func12,Tryz.ntmps12;go_wp2_with fail;refine HR.out.mono ?_;rintro e w1 ⟨hb1,v,rfl,hm,vu,vt,vf,rfl,hown⟩;obtain⟨x1,x2,x3,hx,hu,ht,hf⟩:=hm;have hx':[vu,vt,vf]=[x1,x2,x3]:=congrArg Array.toList (Value.agg.inj hx);injection hx' with e1 hx'
 injection hx' with e2 hx'
 injection hx' with e3 _
 subst e1 e2 e3;obtain⟨au,nu,cu,rfl⟩:∃a n c,vu=.slice a n c:=by
  rcases hown.2 with ⟨h1,_⟩|⟨g,cap,_,h1,_⟩
  ·exact⟨_,_,_,h1⟩
  ·exact⟨_,_,_,h1⟩
 obtain⟨at',nt,ct,rfl⟩:=ht.slice;obtain⟨af,nf,cf,rfl⟩:=hf.slice;obtain⟨W2,HW2,hs2,hb2,q0⟩:∃W2,Hid (w1.alloc (.cells #[.slice au nu cu,.slice at' nt ct,.slice af nf cf] 41)=W2)/\W2.heap.size=w1.heap.size+1/\Below w1.heap.size w1 W2/\W2.cell? ⟨w1.heap.size,0,none⟩=some (.slice au nu cu):=
  ⟨_,rfl,by simp,(Below.refl _ _).alloc (Nat.le_refl _) _,by simp[go_sem]⟩
 have hs1:=hb1.size;have hown2:=YJ hown hb2 (Nat.le_refl _);have HOwn:=zd hown2;have HB2:=zd (hb1.trans (hb2.mono hs1));have hin:=zk hown;have HIn:=zd hin;have l12:w1.heap.size<W2.heap.size:=by omega
 clear hx hu ht hf hown hown2 hb1 hb2 hin HR hs2
 by_cases he:er=0
 ·subst he
  clear HN;go_wp2_with (first|(rw[HW2.out]; clear HW2)|fail);refine (HC.out _ _ HOwn.out).mono ?_;rintro e w3 ⟨rfl,hown3,hg3⟩;have q3:w3.cell? ⟨w1.heap.size,0,none⟩=some (.slice au nu cu):=(World.cell?_of_block (hg3.block w1.heap.size (by omega) (fun e=>by have:=(HIn.out _ e.symm).2; omega))).trans q0;have HB3:Hid (Below w.heap.size w w3):=Below.grown HB2.out hg3 (by omega) (fun j hj=>(HIn.out j hj).1);have HOwn3:=zd hown3;clear hown3 hg3 q0 HC HOwn;go_wp2_with fail;refine (HD.out _ _ HOwn3.out).mono ?_;rintro e w4 ⟨u,rfl,hsl,hg4⟩;have HB4:Hid (Below w.heap.size w w4):=Below.grown HB3.out hg4 (by have:=HB3.out.size; omega) (fun j hj=>(HIn.out j hj).1);have HSl:=zd hsl;clear hsl hg4 q3;go_wp2_with fail;go_ret;exact⟨_,rfl,HSl.out,HB4.out⟩
 ·have he':(er != 0)=true:=by simp[he]
  have HN2:=zd (HN.out he);clear HN he;go_wp2_with (first|(rw[HW2.out]; clear HW2)|fail);go_ret;exact⟨_,rfl,by rw[HN2.out]; exact yo,HB2.out⟩
end Go.Proofs.YtedpiamfpbdhoaaGreatDoor
namespace Go.Proofs
open Go.Shelf
def Tryz.growDg_ren:Go.Shelf.Ren:=⟨fun|4=>114|n=>n,fun|22=>27|25=>51|3=>3|4=>4|9=>9|20=>20|0=>0|n=>n,fun|n=>n⟩
theorem Tryz.growDg:Go.Proofs.Lays8.n4 Tryz.prog Tryz.growDg_ren:={
 mixed:=by kernel_rfl
 f4:=⟨Tryz.f114.name,by decide,Tryz.func114.trans (congrArg some (by kernel_rfl))⟩
 t0:=Tryz.underlying0
 a0:=Tryz.isAgg0
 z0:=Tryz.sizeOf0
 v0:=Tryz.zeroValue0
 t3:=Tryz.underlying3
 a3:=Tryz.isAgg3
 z3:=Tryz.sizeOf3
 v3:=Tryz.zeroValue3
 t4:=Tryz.underlying4
 a4:=Tryz.isAgg4
 z4:=Tryz.sizeOf4
 v4:=Tryz.zeroValue4
 t9:=Tryz.underlying9
 a9:=Tryz.isAgg9
 z9:=Tryz.sizeOf9
 v9:=Tryz.zeroValue9
 t20:=Tryz.underlying20
 a20:=Tryz.isAgg20
 z20:=Tryz.sizeOf20
 v20:=Tryz.zeroValue20
 t22:=Tryz.underlying27
 a22:=Tryz.isAgg27
 z22:=Tryz.sizeOf27
 v22:=Tryz.zeroValue27 }
end Go.Proofs
namespace Go.Proofs.YtedpiamfpbdhoaaGreatDoor
open Go.RowKit
theorem Xu:∀l:List Dg,(zN l).length=l.length * 2
 |[]=>rfl
 |t::r=>by
  have e:zN (t::r)=.string t.wh::.int .i64 t.code::zN r:=by simp[zN]
  rw[e,List.length_cons,List.length_cons,Xu r,List.length_cons]; omega
theorem Kj {w:World} {base:Nat} {v vd:Value} {xs d:List Dg} {S:Nat->Prop} (hown:w.ownsRow base 51 2 v xs.length (zN xs)) (hd:ze S (xp w) 2 d vd) (hb:base<=w.heap.size) (hl:xs.length+d.length<=1000) (ty:TypeId) :
  ∃v' w',(Builtin.append_ #[27,27] ty #[v,vd]).run Tryz.prog w=.ok v' w'/\w'.ownsRow base 51 2 v' (xs++d).length (zN (xs++d))/\w.grownBy w' v.ownBlock:=by
 obtain⟨i0,hi,hz0,hz1,hz2⟩:=info_parts XJ;obtain⟨a,cap,rfl,hlen,h⟩:=hd;have hsame:d.length=0->a=none->∃v' w',(Builtin.append_ #[27,27] ty #[v,.slice a d.length cap]).run Tryz.prog w=.ok v' w'/\w'.ownsRow base 51 2 v' (xs++d).length (zN (xs++d))/\w.grownBy w' v.ownBlock:=fun h0 ha=>by
  have hd0:d=[]:=List.length_eq_zero_iff.1 h0;subst hd0 ha;refine⟨v,w,?_,by simpa using hown,⟨rfl,rfl,rfl,Nat.le_refl _,fun _ _ _=>rfl⟩⟩
  rcases hown.2 with ⟨rfl,h1⟩|⟨g,cap',cur,rfl,_,_,hnc,_⟩
  ·simp[Builtin.append_,run_underlying Tryz.underlying27,sizeOf,typeInfo,hi,Builtin.lenOf,Builtin.firstCells]
  ·simp[Builtin.append_,run_underlying Tryz.underlying27,sizeOf,typeInfo,hi,Builtin.lenOf,Builtin.firstCells,hnc,storeCells]
 have hat:∀ad:Addr,a=some ad->(∀j u,(zN d)[j]? = some u->w.cell? (ad.add j)=some u)->∃v' w',(Builtin.append_ #[27,27] ty #[v,.slice a d.length cap]).run Tryz.prog w=.ok v' w'/\w'.ownsRow base 51 2 v' (xs++d).length (zN (xs++d))/\w.grownBy w' v.ownBlock:=fun ad ha hc=>by
  subst ha;have e:zN (xs++d)=zN xs++zN d:=by simp[zN]
  rw[List.length_append,e];obtain⟨v',w',h1,h2,h3,_⟩:=run_append_own_at (P:=Tryz.prog) w base 27 ty 51 i0 (.agg #[.string ⟨#[]⟩,.int .i64 0]) 2 24 Tryz.underlying27 hi hz0 hz1 hz2 rfl (by decide) v xs.length (zN xs) hown ad d.length cap (zN d) (Xu d) hc (fun u hu=>by
   unfold zN at hu;obtain⟨t,_,ht⟩:=List.mem_flatMap.1 hu;simp at ht
   rcases ht with rfl|rfl <;> rfl) (by unfold maxLen; omega) (by omega) hb
  exact⟨v',w',h1,h2,h3⟩
 rcases h with h0|⟨b,o,rfl,_,hr⟩
 ·cases a with
  |none=>exact hsame h0 rfl
  |some ad=>
   refine hat ad rfl fun j u hj=>?_
   have hd0:d=[]:=List.length_eq_zero_iff.1 h0;subst hd0;simp[zN] at hj
 ·refine hat _ rfl fun j u hj=>?_
  have hj':j<d.length * 2:=by
   rw[<- Xu d];exact (List.getElem?_eq_some_iff.1 hj).1
  have hi:j / 2<d.length:=by omega
  obtain⟨⟨c0,_⟩,c1⟩:=hr.get (j / 2) hi;obtain⟨e0,e1⟩:=Ya d (j / 2) hi;have hadd:(⟨b,o,none⟩:Addr).add j=⟨b,o+j,none⟩:=by unfold Addr.add; split <;> simp_all
  rw[hadd]
  rcases Nat.mod_two_eq_zero_or_one j with hm|hm
  ·have ej:j / 2 * 2=j:=by omega
   rw[ej] at c0 e0;rw[e0] at hj;rw[c0]; exact hj
  ·have ej:j / 2 * 2+1=j:=by omega
   have eo:o+j / 2 * 2+1=o+j:=by omega
   rw[ej] at e1;rw[eo] at c1;rw[e1] at hj;rw[c1]; exact hj
def zh5 (S:Nat->Prop) (w:World) (d:List Dg) (b o:Nat):Prop:=∃v,w.cell? ⟨b,o,none⟩=some v/\ze S (xp w) 2 d v
def ji:List (List Dg)->Nat
 |[]=>0
 |d::r=>d.length+ji r
def jI:List (List Dg)->List Dg
 |[]=>[]
 |d::r=>d++jI r
theorem Y4:∀l,(jI l).length=ji l
 |[]=>rfl
 |d::r=>by rw[jI,ji,List.length_append,Y4 r]
theorem JH {l:List (List Dg)}:∀{k:Nat} (h:k<l.length),ji (l.take (k+1))=ji (l.take k)+l[k].length:=by
 induction l with
 |nil=>intro k h; simp at h
 |cons d r ih=>
  intro k h
  cases k with
  |zero=>simp[ji]
  |succ k=>simp only[List.take_succ_cons,ji,List.getElem_cons_succ]; rw[ih (by simpa using h)]; omega
theorem zdQ {l:List (List Dg)}:∀{k:Nat} (h:k<l.length),jI (l.take (k+1))=jI (l.take k)++l[k]:=by
 induction l with
 |nil=>intro k h; simp at h
 |cons d r ih=>
  intro k h
  cases k with
  |zero=>simp[jI]
  |succ k=>simp only[List.take_succ_cons,jI,List.getElem_cons_succ]; rw[ih (by simpa using h),List.append_assoc]
theorem Ye {l:List (List Dg)}:∀(k:Nat),ji (l.take k)<=ji l:=by
 induction l with
 |nil=>intro k; simp
 |cons d r ih=>
  intro k
  cases k with
  |zero=>simp[ji]
  |succ k=>simp only[List.take_succ_cons,ji]; have:=ih k; omega
theorem zgG (n:Nat) (hn:n<=1000) (w:World):Calls Tryz.prog 114 #[.slice none 0 0,.int .i64 n] w fun e w'=>∃v,e=.returned v/\w'.ownsRow w.heap.size 51 2 v 0 []/\Below w.heap.size w w':=by
 obtain⟨i0,hi,hz0,hz1,hz2⟩:=info_parts XJ
 by_cases h0:n=0
 ·subst h0
  refine (Any8.slices_Grow_room Tryz.growDg none 0 0 0 w (by omega) (by omega) (by omega) (by omega)).mono ?_;rintro e w' ⟨rfl,rfl⟩;exact⟨_,rfl,World.ownsRow_nil _ _ _ _,Below.refl _ _⟩
 ·refine (Any8.slices_Grow_grow Tryz.growDg i0 _ hi hz0 (by omega) none 0 0 n [] w (by omega) (by omega) (by rw[hz2]; omega) (by omega) (by simp) (fun _=>rfl) (fun a h=>by cases h)).mono ?_
  rintro e w' ⟨rfl,rfl⟩;have hge:=grownCap_ge w (0+n) 0 (Tryz.growDg_ren.t 25);have hcm:=grownCap_le_maxLen w (0+n) 0 (Tryz.growDg_ren.t 25) (by unfold maxLen; omega);refine⟨_,rfl,⟨rfl,Or.inr ⟨w.heap.size,_,_,rfl,Nat.le_refl _,heap_alloc_new w.drew _,by omega,hcm,?_,by simp⟩⟩,((Below.refl _ _).drew).alloc (Nat.le_refl _) _⟩;have hzs:(Value.agg #[.string ⟨#[]⟩,.int .i64 0]).cells.size=2:=rfl;simp only[Array.size_append,List.size_toArray,size_zeroCells,hzs,List.length_nil];omega
theorem zdR (S:Nat->Prop) (ds:List (List Dg)) (v:Value) (w:World) (hS:∀b,S b->b<w.heap.size) (hv:ze S (zh5 S w) 1 ds v) (hn:ji ds<=1000) (hsz:∀t∈jI ds,t.wh.size<=maxLen) :
  Calls Tryz.prog 61 #[v] w fun e w'=>∃u,e=.returned u/\ze (fun b=>w.heap.size<=b/\b<w'.heap.size) (xp w') 2 (jI ds) u/\Below w.heap.size w w':=by
 have HV:=zd hv;have hlen:=hv.len;unfold maxLen at hlen;have HSz:=zd hsz;obtain⟨a,cap,rfl⟩:=hv.is;clear hv hsz;go_enter Tryz.func61,Tryz.ntmps61;go_wp2_with fail
 go_loopw [3,11] (fun s i wr=>∃k:Nat,k<=ds.length/\i=.int .i64 k/\s=.int .i64 (ji (ds.take k):Nat)/\Below w.heap.size w wr) (fun _ i _=>ds.length - (intOf i).toNat)
 case atStart=>exact⟨0,Nat.zero_le _,rfl,rfl,Below.refl _ _⟩
 case round=>
  obtain⟨k,hk,rfl,rfl,hbl⟩:=hrel;have HBl:=zd hbl;have hle:=Ye (l:=ds) k
  by_cases hlt:k<ds.length
  ·have hlt':(k:Int)<(ds.length:Int):=by omega
   have hk0:(0:Int)<=(k:Int):=by omega
   obtain⟨_,b,off,rfl,hb,⟨vd,c0,hd⟩⟩:=HV.out.at hlt;rw[Nat.mul_one] at c0;have d0:=(hbl.cell (p:=⟨b,off+k,none⟩) (hS b hb)).trans c0;have hle1:=Ye (l:=ds) (k+1);have hT:=JH hlt;obtain⟨a2,cap2,rfl⟩:=hd.is;generalize ji (ds.take k)=s0 at *;obtain⟨s1,hs1⟩:∃s1,s1=ji (ds.take (k+1)):=⟨_,rfl⟩
   have HS1:=zd hs1;rw[<- hs1] at hT hle1;clear hs1;generalize ds[k].length=m0 at *;have hw1:wrap64 ((s0:Int)+(m0:Int))=((s1:Nat):Int):=by unfold wrap64; omega
   have hpos:¬((s1:Nat):Int)<0:=by omega
   clear c0 hbl hT hd;go_wp2_with fail;exact⟨⟨k+1,by omega,by go_num,by rw[hw1,HS1.out],HBl.out⟩,by simp[intOf]; omega⟩
  ·have hnl:¬(k:Int)<(ds.length:Int):=by omega
   have hke:k=ds.length:=by omega
   subst hke;rw[List.take_length] at hle;have HG:=zd (fun W=>zgG (ji ds) hn W);rw[List.take_length];go_wp2_with fail;refine (HG.out _).mono ?_;rintro e w2 ⟨nv,rfl,hown,hb2⟩;have hwr:=hbl.size;have HB2:=zd (HBl.out.trans (hb2.mono hbl.size));have HOwn:Hid (w2.ownsRow w.heap.size 51 2 nv 0 []):=⟨hown.1,hown.2.imp_right fun ⟨g,cap,cur,h1,h2,h3⟩=>⟨g,cap,cur,h1,Nat.le_trans hwr h2,h3⟩⟩
   clear hown hb2 hbl HG HBl;go_wp2_with fail
   go_loopw [6,27] (fun v i wz=>∃j:Nat,j<=ds.length/\i=.int .i64 j/\wz.ownsRow w.heap.size 51 2 v (jI (ds.take j)).length (zN (jI (ds.take j)))/\Below w.heap.size w wz) (fun _ i _=>ds.length - (intOf i).toNat)
   case atStart=>exact⟨0,Nat.zero_le _,rfl,HOwn.out,HB2.out⟩
   case round=>
    clear HOwn HB2;obtain⟨j,hj,rfl,hown,hbz⟩:=hrel;have HBz:=zd hbz;have HOwn:=zd hown;have hlj:=Ye (l:=ds) j;rw[<- Y4] at hlj
    by_cases hjt:j<ds.length
    ·have hjt':(j:Int)<(ds.length:Int):=by omega
     have hj0:(0:Int)<=(j:Int):=by omega
     obtain⟨_,b,off,rfl,hb,⟨vd,c0,hd⟩⟩:=HV.out.at hjt;rw[Nat.mul_one] at c0;have d0:=(hbz.cell (p:=⟨b,off+j,none⟩) (hS b hb)).trans c0;have hl1:=Ye (l:=ds) (j+1);rw[JH hjt,<- Y4] at hl1;obtain⟨a2,cap2,rfl⟩:=hd.is;obtain⟨v',w',hrun,hown',hgr⟩:=Kj hown (vw (Keeps.below hbz hS) hd) hbz.size (by omega) 27;have HRun:=zd hrun;have HO':Hid (w'.ownsRow w.heap.size 51 2 v' (jI (ds.take (j+1))).length (zN (jI (ds.take (j+1))))):=by
      show w'.ownsRow _ _ _ _ _ _;rw[zdQ hjt]; exact hown'
     have HB':Hid (Below w.heap.size w w'):=Below.grown hbz hgr hbz.size (fun q hq=>vK hown q hq);clear hown hown' hgr hrun c0 hbz hd HOwn HBz;go_wp2_with (at_builtin; refine Lib.wpList_append_run _ rfl _ _ _ _ rfl _ _ rfl rfl _ _ HRun.out ?_);exact⟨⟨j+1,by omega,by go_num,HO'.out,HB'.out⟩,by simp[intOf]; omega⟩
    ·have hjn:¬(j:Int)<(ds.length:Int):=by omega
     have hje:j=ds.length:=by omega
     subst hje;rw[List.take_length] at hown hlj;have HR:=zd (kN hown (by unfold maxLen; omega) HSz.out);clear hown HOwn hbz;go_wp2_with fail;go_ret;exact⟨_,rfl,HR.out,HBz.out⟩
theorem zcl (B:Nat) (x s:ByteArray) (k:Int) (f n:ByteArray) (a:Option Addr) (m cap:Nat) (w:World) (hp:w.cell? ⟨B,0,none⟩=some (.string s)) :
  Calls Tryz.prog 295 #[.agg #[.string x,.int .i64 k,.string f,.string n,.slice a m cap],.pointer (some ⟨B,0,none⟩)] w fun e w'=>e=.returned (.bool (sEq x s))/\Below w.heap.size w w':=by
 have hlt:B<w.heap.size:=World.block_lt_of_cell? _ _ hp;have HE:Hid (sEq x s=(x.toList==s.toList)):=rfl;go_enter Tryz.func295,Tryz.ntmps295
 go_wp2
 go_ret;exact⟨by rw[HE.out]; rfl,(Below.refl _ _).alloc (Nat.le_refl _) _⟩
theorem Kk (B:Nat) (x s:ByteArray) (y:ByteArray) (vp:Value) (k:Int) (f n:ByteArray) (va:Value) (k2 n2:Int) (f2 s2:ByteArray) (ve:Value) (w:World) (hp:w.cell? ⟨B,0,none⟩=some (.string s)) :
  Calls Tryz.prog 177 #[.agg #[.string x,.string y,vp,.int .i64 k,.string f,.string n,va,.int .i64 k2,.int .i64 n2,.string f2,.string s2,ve],.pointer (some ⟨B,0,none⟩)] w fun e w'=>e=.returned (.bool (sEq x s))/\Below w.heap.size w w':=by
 have hlt:B<w.heap.size:=World.block_lt_of_cell? _ _ hp;have HE:Hid (sEq x s=(x.toList==s.toList)):=rfl;go_enter Tryz.func177,Tryz.ntmps177
 go_wp2
 go_ret;exact⟨by rw[HE.out]; rfl,(Below.refl _ _).alloc (Nat.le_refl _) _⟩
theorem Q3 {S:Nat->Prop} {w:World} {x:Fu} {b o:Nat} (h:kG S w x b o):∃vp1 vp2 vp3 k f n a m cap k2 n2 f2 s2 ve1 ve2 ve3,w.cell? ⟨b,o,none⟩=some (.string x.name)/\w.cell? ⟨b,o+1,none⟩=some (.string x.var)/\w.cell? ⟨b,o+2,none⟩=some (.slice vp1 vp2 vp3)/\w.cell? ⟨b,o+3,none⟩=some (.int .i64 k)/\w.cell? ⟨b,o+4,none⟩=some (.string f)/\w.cell? ⟨b,o+5,none⟩=some (.string n)/\w.cell? ⟨b,o+6,none⟩=some (.slice a m cap)/\
  w.cell? ⟨b,o+7,none⟩=some (.int .i64 k2)/\w.cell? ⟨b,o+8,none⟩=some (.int .i64 n2)/\w.cell? ⟨b,o+9,none⟩=some (.string f2)/\w.cell? ⟨b,o+10,none⟩=some (.string s2)/\w.cell? ⟨b,o+11,none⟩=some (.slice ve1 ve2 ve3)/\
  (x.name.size<=maxLen/\x.var.size<=maxLen/\ze S (qO S w) 5 x.params (.slice vp1 vp2 vp3)/\xJ S w x.result k f n (.slice a m cap)/\xP S w x.body k2 n2 f2 s2 (.slice ve1 ve2 ve3)):=by
 obtain⟨⟨c0,hsz⟩,⟨c1,hsz1⟩,⟨vp,c2,hps⟩,hty,hex⟩:=h;obtain⟨kd,fo,na,va,c3,c4,c5,c6,hcs⟩:=qL.1 hty;obtain⟨ke,ne,fe,se,ve,c7,c8,c9,c10,c11,hce⟩:=qU.1 hex;obtain⟨va1,va2,va3,rfl⟩:=hcs.slice;obtain⟨vp1,vp2,vp3,rfl⟩:=hps.slice;obtain⟨ve1,ve2,ve3,rfl⟩:=hce.slice;rw[Nat.add_assoc] at c4 c5 c6 c8 c9 c10 c11;exact⟨_,_,_,_,_,_,_,_,_,_,_,_,_,_,_,_,c0,c1,c2,c3,c4,c5,c6,c7,c8,c9,c10,c11,hsz,hsz1,hps,hcs,hce⟩
theorem zcm (S:Nat->Prop) (l:List Fd) (s:ByteArray) (B:Nat) (v:Value) (w:World) (hS:∀b,S b->b<w.heap.size) (hv:ze S (qO S w) 5 l v) (hp:w.cell? ⟨B,0,none⟩=some (.string s)) :
  Calls Tryz.prog 246 #[v,.func (.func 295) #[] #[.pointer (some ⟨B,0,none⟩)]] w fun e w'=>e=.returned (.int .i64 (zC (fun k:Fd=>sEq k.name s) l))/\Below w.heap.size w w':=by
 have HV:=zd hv;have hlen:=hv.len;unfold maxLen at hlen;obtain⟨a,cap,rfl⟩:=hv.is;have HP:=zd hp;have HBl:=zd (World.block_lt_of_cell? _ _ hp);clear hv hp;go_enter Tryz.func246,Tryz.ntmps246;go_wp2_with fail
 go_loopw [8] (fun i wr=>∃j:Nat,j<=l.length/\i=.int .i64 j/\zj (fun k:Fd=>sEq k.name s) l=j+zj (fun k:Fd=>sEq k.name s) (l.drop j)/\Below w.heap.size w wr) (fun i _=>l.length - (intOf i).toNat)
 case atStart=>exact⟨0,Nat.zero_le _,rfl,(Nat.zero_add _).symm,Below.refl _ _⟩
 case round=>
  obtain⟨j,hj,rfl,hq,hbl⟩:=hrel;have HQ:=zd hq;have HBW:=zd hbl;clear hq
  by_cases hlt:j<l.length
  ·have hlt':(j:Int)<(l.length:Int):=by omega
   obtain⟨_,b,off,rfl,hb,hat⟩:=HV.out.at hlt;have hbk:=hS b hb;obtain⟨kd,fo,na,p1,p2,p3,a0,a1,a2,a3,a4,_⟩:=Zc hat;have d0:=(hbl.cell (p:=⟨b,off+j * 5,none⟩) hbk).trans a0;have d1:=(hbl.cell (p:=⟨b,off+j * 5+1,none⟩) hbk).trans a1;have d2:=(hbl.cell (p:=⟨b,off+j * 5+2,none⟩) hbk).trans a2;have d3:=(hbl.cell (p:=⟨b,off+j * 5+3,none⟩) hbk).trans a3;have d4:=(hbl.cell (p:=⟨b,off+j * 5+4,none⟩) hbk).trans a4;have HC:Hid (Calls Tryz.prog 295 #[.agg #[.string l[j].name,.int .i64 kd,.string fo,.string na,.slice p1 p2 p3],.pointer (some ⟨B,0,none⟩)] wr fun e w'=>e=.returned (.bool (sEq l[j].name s))/\Below wr.heap.size wr w'):=zcl B _ s _ _ _ _ _ _ wr ((hbl.cell HBl.out).trans HP.out);have HYes:Hid (sEq l[j].name s=true->zj (fun k:Fd=>sEq k.name s) l=j):=fun h=>by
    rw[HQ.out,jG hlt h]; rfl
   have HNo:Hid (sEq l[j].name s=false->zj (fun k:Fd=>sEq k.name s) l=(j+1)+zj (fun k:Fd=>sEq k.name s) (l.drop (j+1))):=fun h=>by
    rw[HQ.out,kq hlt h]; omega
   clear a0 a1 a2 a3 a4 hat HV hbl HQ
   skip
   generalize l[j].name=x at *
   cases hx:sEq x s with
   |true=>
    rw[hx] at HC;have HI:Hid (zC (fun k:Fd=>sEq k.name s) l=(j:Int)):=by
     show _=_;unfold zC;rw[HYes.out hx,if_pos hlt]
    clear HYes HNo hx;go_wp2_with fail;refine HC.out.mono ?_;rintro e w1 ⟨rfl,hb1⟩;have HB1:=zd (HBW.out.trans (hb1.mono HBW.out.size));clear hb1;go_wp2_with fail;go_ret;exact⟨by rw[HI.out]; rfl,HB1.out⟩
   |false=>
    rw[hx] at HC;have HN:=zd (HNo.out hx);clear HYes HNo hx;go_wp2_with fail;refine HC.out.mono ?_;rintro e w1 ⟨rfl,hb1⟩;have HB1:=zd (HBW.out.trans (hb1.mono HBW.out.size));clear hb1;go_wp2_with fail;exact⟨⟨j+1,by omega,by go_num,HN.out,HB1.out⟩,by simp[intOf]; omega⟩
  ·have hnl:¬(j:Int)<(l.length:Int):=by omega
   have HI:Hid (zC (fun k:Fd=>sEq k.name s) l=-1):=by
    show _=_;unfold zC;rw[HQ.out,jH (by omega),if_neg (by omega)]
   clear HV hbl HQ;go_wp2_with fail;go_ret;exact⟨by rw[HI.out]; rfl,HBW.out⟩
theorem Kl (S:Nat->Prop) (l:List Fu) (s:ByteArray) (B:Nat) (v:Value) (w:World) (hS:∀b,S b->b<w.heap.size) (hv:ze S (kG S w) 12 l v) (hp:w.cell? ⟨B,0,none⟩=some (.string s)) :
  Calls Tryz.prog 256 #[v,.func (.func 177) #[] #[.pointer (some ⟨B,0,none⟩)]] w fun e w'=>e=.returned (.int .i64 (zC (fun k:Fu=>sEq k.name s) l))/\Below w.heap.size w w':=by
 have HV:=zd hv;have hlen:=hv.len;unfold maxLen at hlen;obtain⟨a,cap,rfl⟩:=hv.is;have HP:=zd hp;have HBl:=zd (World.block_lt_of_cell? _ _ hp);clear hv hp;go_enter Tryz.func256,Tryz.ntmps256;go_wp2_with fail
 go_loopw [8] (fun i wr=>∃j:Nat,j<=l.length/\i=.int .i64 j/\zj (fun k:Fu=>sEq k.name s) l=j+zj (fun k:Fu=>sEq k.name s) (l.drop j)/\Below w.heap.size w wr) (fun i _=>l.length - (intOf i).toNat)
 case atStart=>exact⟨0,Nat.zero_le _,rfl,(Nat.zero_add _).symm,Below.refl _ _⟩
 case round=>
  obtain⟨j,hj,rfl,hq,hbl⟩:=hrel;have HQ:=zd hq;have HBW:=zd hbl;clear hq
  by_cases hlt:j<l.length
  ·have hlt':(j:Int)<(l.length:Int):=by omega
   obtain⟨_,b,off,rfl,hb,hat⟩:=HV.out.at hlt;have hbk:=hS b hb;obtain⟨vp1,vp2,vp3,kd,fo,na,p1,p2,p3,ke,ne,fe,se,ve1,ve2,ve3,a0,a1,a2,a3,a4,a5,a6,a7,a8,a9,a10,a11,_⟩:=Q3 hat;have d0:=(hbl.cell (p:=⟨b,off+j * 12,none⟩) hbk).trans a0;have d1:=(hbl.cell (p:=⟨b,off+j * 12+1,none⟩) hbk).trans a1;have d2:=(hbl.cell (p:=⟨b,off+j * 12+2,none⟩) hbk).trans a2;have d3:=(hbl.cell (p:=⟨b,off+j * 12+3,none⟩) hbk).trans a3;have d4:=(hbl.cell (p:=⟨b,off+j * 12+4,none⟩) hbk).trans a4;have d5:=(hbl.cell (p:=⟨b,off+j * 12+5,none⟩) hbk).trans a5;have d6:=(hbl.cell (p:=⟨b,off+j * 12+6,none⟩) hbk).trans a6;have d7:=(hbl.cell (p:=⟨b,off+j * 12+7,none⟩) hbk).trans a7;have d8:=(hbl.cell (p:=⟨b,off+j * 12+8,none⟩) hbk).trans a8;have d9:=(hbl.cell (p:=⟨b,off+j * 12+9,none⟩) hbk).trans a9;have d10:=(hbl.cell (p:=⟨b,off+j * 12+10,none⟩) hbk).trans a10;have d11:=(hbl.cell (p:=⟨b,off+j * 12+11,none⟩) hbk).trans a11;have HC:Hid (Calls Tryz.prog 177 #[.agg #[.string l[j].name,.string l[j].var,.slice vp1 vp2 vp3,.int .i64 kd,.string fo,.string na,.slice p1 p2 p3,.int .i64 ke,.int .i64 ne,.string fe,.string se,.slice ve1 ve2 ve3],.pointer (some ⟨B,0,none⟩)] wr fun e w'=>e=.returned (.bool (sEq l[j].name s))/\Below wr.heap.size wr w'):=Kk B _ s _ _ _ _ _ _ _ _ _ _ _ wr ((hbl.cell HBl.out).trans HP.out);have HYes:Hid (sEq l[j].name s=true->zj (fun k:Fu=>sEq k.name s) l=j):=fun h=>by
    rw[HQ.out,jG hlt h]; rfl
   have HNo:Hid (sEq l[j].name s=false->zj (fun k:Fu=>sEq k.name s) l=(j+1)+zj (fun k:Fu=>sEq k.name s) (l.drop (j+1))):=fun h=>by
    rw[HQ.out,kq hlt h]; omega
   clear a0 a1 a2 a3 a4 a5 a6 a7 a8 a9 a10 a11 hat HV hbl HQ;generalize l[j].var=xv at *;generalize l[j].name=x at *
   cases hx:sEq x s with
   |true=>
    rw[hx] at HC;have HI:Hid (zC (fun k:Fu=>sEq k.name s) l=(j:Int)):=by
     show _=_;unfold zC;rw[HYes.out hx,if_pos hlt]
    clear HYes HNo hx;go_wp2_with fail;refine HC.out.mono ?_;rintro e w1 ⟨rfl,hb1⟩;have HB1:=zd (HBW.out.trans (hb1.mono HBW.out.size));clear hb1;go_wp2_with fail;go_ret;exact⟨by rw[HI.out]; rfl,HB1.out⟩
   |false=>
    rw[hx] at HC;have HN:=zd (HNo.out hx);clear HYes HNo hx;go_wp2_with fail;refine HC.out.mono ?_;rintro e w1 ⟨rfl,hb1⟩;have HB1:=zd (HBW.out.trans (hb1.mono HBW.out.size));clear hb1;go_wp2_with fail;exact⟨⟨j+1,by omega,by go_num,HN.out,HB1.out⟩,by simp[intOf]; omega⟩
  ·have hnl:¬(j:Int)<(l.length:Int):=by omega
   have HI:Hid (zC (fun k:Fu=>sEq k.name s) l=-1):=by
    show _=_;unfold zC;rw[HQ.out,jH (by omega),if_neg (by omega)]
   clear HV hbl HQ;go_wp2_with fail;go_ret;exact⟨by rw[HI.out]; rfl,HBW.out⟩
def Qa (l:List Fd) (s:ByteArray):Bool:=decide (zj (fun k:Fd=>sEq k.name s) l<l.length)
theorem zdS (S:Nat->Prop) (l:List Fd) (s:ByteArray) (B:Nat) (v:Value) (w:World) (hS:∀b,S b->b<w.heap.size) (hv:ze S (qO S w) 5 l v) (hp:w.cell? ⟨B,0,none⟩=some (.string s)) :
  Calls Tryz.prog 294 #[v,.func (.func 295) #[] #[.pointer (some ⟨B,0,none⟩)]] w fun e w'=>e=.returned (.bool (Qa l s))/\Below w.heap.size w w':=by
 have HC:Hid (Calls Tryz.prog 246 #[v,.func (.func 295) #[] #[.pointer (some ⟨B,0,none⟩)]] w fun e w'=>e=.returned (.int .i64 (zC (fun k:Fd=>sEq k.name s) l))/\Below w.heap.size w w'):=zcm S l s B v w hS hv hp;have hE:decide (0<=zC (fun k:Fd=>sEq k.name s) l)=Qa l s:=by
  unfold zC Qa
  by_cases h:zj (fun k:Fd=>sEq k.name s) l<l.length
  ·rw[if_pos h]; simp[h]
  ·rw[if_neg h]; simp[h]
 have HE:=zd hE;obtain⟨a,cap,rfl⟩:=hv.is;clear hv hE;generalize zC (fun k:Fd=>sEq k.name s) l=r at *;go_enter Tryz.func294,Tryz.ntmps294;go_wp2_with fail;refine HC.out.mono ?_;rintro e w1 ⟨rfl,hb1⟩;have HB1:=zd hb1;clear hb1;go_wp2_with fail;go_ret;exact⟨by rw[<- HE.out]; rfl,HB1.out⟩
theorem zfe (S:Nat->Prop) (l:List Fd) (s:ByteArray) (v:Value) (w:World) (hS:∀b,S b->b<w.heap.size) (hv:ze S (qO S w) 5 l v) :
  Calls Tryz.prog 257 #[v,.string s] w fun e w'=>e=.returned (.bool (Qa l s))/\Below w.heap.size w w':=by
 obtain⟨w2,hwe,hs2,p1,hbel⟩:∃w2,w.alloc (.cells #[.string s] 9)=w2/\w2.heap.size=w.heap.size+1/\w2.cell? ⟨w.heap.size,0,none⟩=some (.string s)/\Below w.heap.size w w2:=
  ⟨_,rfl,by simp,by simp[go_sem],(Below.refl _ _).alloc (Nat.le_refl _) _⟩
 have HC:Hid (Calls Tryz.prog 294 #[v,.func (.func 295) #[] #[.pointer (some ⟨w.heap.size,0,none⟩)]] w2 fun e w'=>e=.returned (.bool (Qa l s))/\Below w2.heap.size w2 w'):=
  zdS S _ _ _ _ w2 (fun b hb=>Nat.lt_of_lt_of_le (hS b hb) hbel.size) (zP (Keeps.below hbel hS) hv) p1
 obtain⟨a,n,cap,rfl⟩:=hv.slice;have HWe:=zd hwe;have HBel:=zd hbel;clear hv hwe hbel p1;go_enter Tryz.func257,Tryz.ntmps257;go_wp2_with fail;rw[HWe.out];refine HC.out.mono ?_;rintro e w3 ⟨rfl,hb3⟩;have HB:=zd (HBel.out.trans (hb3.mono HBel.out.size));clear hb3;go_wp2_with fail;go_ret;exact⟨rfl,HB.out⟩
def jJ (l:List Fu) (s:ByteArray):Bool:=decide (zj (fun k:Fu=>sEq k.name s) l<l.length)
theorem zaE (S:Nat->Prop) (l:List Fu) (s:ByteArray) (B:Nat) (v:Value) (w:World) (hS:∀b,S b->b<w.heap.size) (hv:ze S (kG S w) 12 l v) (hp:w.cell? ⟨B,0,none⟩=some (.string s)) :
  Calls Tryz.prog 176 #[v,.func (.func 177) #[] #[.pointer (some ⟨B,0,none⟩)]] w fun e w'=>e=.returned (.bool (jJ l s))/\Below w.heap.size w w':=by
 have HC:Hid (Calls Tryz.prog 256 #[v,.func (.func 177) #[] #[.pointer (some ⟨B,0,none⟩)]] w fun e w'=>e=.returned (.int .i64 (zC (fun k:Fu=>sEq k.name s) l))/\Below w.heap.size w w'):=Kl S l s B v w hS hv hp;have hE:decide (0<=zC (fun k:Fu=>sEq k.name s) l)=jJ l s:=by
  unfold zC jJ
  by_cases h:zj (fun k:Fu=>sEq k.name s) l<l.length
  ·rw[if_pos h]; simp[h]
  ·rw[if_neg h]; simp[h]
 have HE:=zd hE;obtain⟨a,cap,rfl⟩:=hv.is;clear hv hE;generalize zC (fun k:Fu=>sEq k.name s) l=r at *;go_enter Tryz.func176,Tryz.ntmps176;go_wp2_with fail;refine HC.out.mono ?_;rintro e w1 ⟨rfl,hb1⟩;have HB1:=zd hb1;clear hb1;go_wp2_with fail;go_ret;exact⟨by rw[<- HE.out]; rfl,HB1.out⟩
theorem zby (S:Nat->Prop) (l:List Fu) (s:ByteArray) (v:Value) (w:World) (hS:∀b,S b->b<w.heap.size) (hv:ze S (kG S w) 12 l v) :
  Calls Tryz.prog 107 #[v,.string s] w fun e w'=>e=.returned (.bool (jJ l s))/\Below w.heap.size w w':=by
 obtain⟨w2,hwe,hs2,p1,hbel⟩:∃w2,w.alloc (.cells #[.string s] 9)=w2/\w2.heap.size=w.heap.size+1/\w2.cell? ⟨w.heap.size,0,none⟩=some (.string s)/\Below w.heap.size w w2:=
  ⟨_,rfl,by simp,by simp[go_sem],(Below.refl _ _).alloc (Nat.le_refl _) _⟩
 have HC:Hid (Calls Tryz.prog 176 #[v,.func (.func 177) #[] #[.pointer (some ⟨w.heap.size,0,none⟩)]] w2 fun e w'=>e=.returned (.bool (jJ l s))/\Below w2.heap.size w2 w'):=
  zaE S _ _ _ _ w2 (fun b hb=>Nat.lt_of_lt_of_le (hS b hb) hbel.size) (Q8 (Keeps.below hbel hS) hv) p1
 obtain⟨a,n,cap,rfl⟩:=hv.slice;have HWe:=zd hwe;have HBel:=zd hbel;clear hv hwe hbel p1;go_enter Tryz.func107,Tryz.ntmps107;go_wp2_with fail;rw[HWe.out];refine HC.out.mono ?_;rintro e w3 ⟨rfl,hb3⟩;have HB:=zd (HBel.out.trans (hb3.mono HBel.out.size));clear hb3;go_wp2_with fail;go_ret;exact⟨rfl,HB.out⟩
def jO (ρ:Ty->Sol) (ps:List Fd) (i:Nat):Sol:=match ps[i]? with
 |some p=>if Qa (ps.take i) p.name=true then (zr,4) else ρ p.is
 |none=>(zr,4)
def jY (c:Nat->Int):Nat->Int
 |0=>0
 |k+1=>if jY c k≠0 then jY c k else c k
def qF (ρ:Ty->Sol) (ps:List Fd):List ByteArray:=ps.map fun p=>(ρ p.is).1
def vV (ρ:Ty->Sol) (ps:List Fd):Int:=jY (fun i=>(jO ρ ps i).2) ps.length
theorem JI {ρ:Ty->Sol} {ps:List Fd} {j:Nat} (h:j<ps.length) (h':j<(qF ρ ps).length):(qF ρ ps)[j]=(ρ ps[j].is).1:=List.getElem_map ..
theorem K3 {ρ:Ty->Sol} {ps:List Fd} {i:Nat} (h:i<ps.length):jO ρ ps i=if Qa (ps.take i) ps[i].name=true then (zr,4) else ρ ps[i].is:=by
 unfold jO;rw[List.getElem?_eq_getElem h]
theorem Yf {c:Nat->Int}:∀{k:Nat},(∀j,j<k->c j=0)->jY c k=0
 |0,_=>rfl
 |k+1,h=>by
  have e:=Yf (c:=c) (k:=k) (fun j hj=>h j (by omega));rw[jY,if_neg (by rw[e]; simp),h k (by omega)]
theorem zbz {c:Nat->Int} {i:Nat} (h0:∀j,j<i->c j=0) (hi:c i≠0):∀{k:Nat},i<k->jY c k=c i
 |0,h=>absurd h (by omega)
 |k+1,h=>by
  by_cases he:i=k
  ·subst he
   rw[jY,if_neg (by rw[Yf h0]; simp)]
  ·have e:=zbz h0 hi (k:=k) (by omega)
   rw[jY,e,if_pos hi]
theorem zh6 (W:World):(sizeOf (Tryz.prog.elem 38)).run Tryz.prog W=.ok 5 W:=by
 have:(sizeOf 86).run Tryz.prog W=.ok 5 W:=by simp[go_sem]
 exact this
theorem zh7 {S:Nat->Prop} {w:World} {u:List Fd} {a:Option Addr} {n cap:Nat} (h:ze S (qO S w) 5 u (.slice a n cap)) {k:Nat} (hk:k<=u.length) :
  ∃a' cap',(∀W,(Instr.slice 38 (.slice a n cap) none (some (.int .i64 (k:Int))) none).run Tryz.prog W=.ok (.slice a' k cap') W)/\ze S (qO S w) 5 (u.take k) (.slice a' k cap'):=by
 have hcap:k<=cap:=by
  obtain⟨_,_,e,⟨_,h2⟩,_⟩:=h;injection e with e1 e2 e3
  omega
 obtain⟨a',cap',e,hp⟩:=Kh h (i:=0) (j:=k) (Nat.zero_le _) hk;rw[List.drop_zero,Nat.sub_zero] at hp;rw[Nat.sub_zero] at e;refine⟨a',cap',fun W=>?_,hp⟩;rw[run_slice_h W _ a n cap Tryz.underlying38 .i64 k (by omega) (by omega),zh6];simpa using e
theorem zh8 (W:World):(sizeOf (Tryz.prog.elem 39)).run Tryz.prog W=.ok 12 W:=by
 have:(sizeOf 72).run Tryz.prog W=.ok 12 W:=by simp[go_sem]
 exact this
theorem zh9 {S:Nat->Prop} {w:World} {u:List Fu} {a:Option Addr} {n cap:Nat} (h:ze S (kG S w) 12 u (.slice a n cap)) {k:Nat} (hk:k<=u.length) :
  ∃a' cap',(∀W,(Instr.slice 39 (.slice a n cap) none (some (.int .i64 (k:Int))) none).run Tryz.prog W=.ok (.slice a' k cap') W)/\ze S (kG S w) 12 (u.take k) (.slice a' k cap'):=by
 have hcap:k<=cap:=by
  obtain⟨_,_,e,⟨_,h2⟩,_⟩:=h;injection e with e1 e2 e3
  omega
 obtain⟨a',cap',e,hp⟩:=Kh h (i:=0) (j:=k) (Nat.zero_le _) hk;rw[List.drop_zero,Nat.sub_zero] at hp;rw[Nat.sub_zero] at e;refine⟨a',cap',fun W=>?_,hp⟩;rw[run_slice_h W _ a n cap Tryz.underlying39 .i64 k (by omega) (by omega),zh8];simpa using e
def zdT (w:World) (ρ:Ty->Sol) (ps:List Fd) (e:Ending) (w':World):Prop:=
 ∃a n cap,e=.returned (.tuple #[.slice a n cap,.int .i64 (vV ρ ps)])/\(vV ρ ps=0->ze (fun b=>w.heap.size<=b/\b<w'.heap.size) (zG w') 1 (qF ρ ps) (.slice a n cap))/\Below w.heap.size w w'
theorem zff (S:Nat->Prop) (ρ:Ty->Sol) (ps:List Fd) (v:Value) (mB lB fB:Nat) (w:World) (hS:∀b,S b->b<w.heap.size) (hv:ze S (qO S w) 5 ps v) (h8:ps.length<=8) (hty:∀p∈ps,zl p.is 1=0) (hρ:∀t,(ρ t).1.size<=maxLen)
  (HF:∀W t u,Below w.heap.size w W->zl t 1=0->vi S W t u->Calls Tryz.prog 109 #[u,.pointer (some ⟨mB,0,none⟩),.pointer (some ⟨lB,0,none⟩),.pointer (some ⟨fB,0,none⟩)] W (xS W (ρ t))) :
  Calls Tryz.prog 178 #[v,.func (.func 109) #[] #[.pointer (some ⟨mB,0,none⟩),.pointer (some ⟨lB,0,none⟩),.pointer (some ⟨fB,0,none⟩)]] w (zdT w ρ ps):=by
 have hr:=reachBytes_lt;have HV:=zd hv;obtain⟨a,cap,rfl⟩:=hv.is;have hlen:ps.length<=9223372036854775807:=by omega
 have hkl:(qF ρ ps).length=ps.length:=List.length_map ..;obtain⟨arr,harr,hmk⟩:=QX Tryz.underlying37 V4 ps.length (by omega) (by unfold maxLen; omega);have HJ:Hid (RowJ w 9 1 (Qu w.heap.size) (qF ρ ps) 0 (w.alloc (.cells arr 9))):=RowJ.start (by rw[hkl]; exact harr);have HFv:=zd HF;have HTy:=zd hty;have HRo:=zd hρ;have HKl:=zd hkl;clear hv harr HF hty hρ hkl;go_enter Tryz.func178,Tryz.ntmps178;go_wp2_with fail;clear hmk
 go_loopw [16] (fun i wr=>∃j:Nat,j<=ps.length/\i=.int .i64 j/\(∀q,q<j->(jO ρ ps q).2=0)/\RowJ w 9 1 (Qu w.heap.size) (qF ρ ps) j wr) (fun i _=>ps.length - (intOf i).toNat)
 case atStart=>exact⟨0,Nat.zero_le _,rfl,fun _ h=>absurd h (by omega),HJ.out⟩
 case round=>
  obtain⟨j,hj,rfl,hall,hrj⟩:=hrel;have HAll:=zd hall;have HR:=zd hrj;clear HJ hall
  by_cases hlt:j<ps.length
  ·have hlt':(j:Int)<(ps.length:Int):=by omega
   have hj0:(0:Int)<=(j:Int):=by omega
   obtain⟨cu,cc,hrun,hcut⟩:=zh7 HV.out (k:=j) (by omega);obtain⟨_,b,off,rfl,hb,hat⟩:=HV.out.at hlt;obtain⟨kd,fo,na,p1,p2,p3,a0,a1,a2,a3,a4,hcs⟩:=Zc hat;have hbk:=hS b hb;have d0:=(hrj.bel.cell (p:=⟨b,off+j * 5,none⟩) hbk).trans a0;have d1:=(hrj.bel.cell (p:=⟨b,off+j * 5+1,none⟩) hbk).trans a1;have d2:=(hrj.bel.cell (p:=⟨b,off+j * 5+2,none⟩) hbk).trans a2;have d3:=(hrj.bel.cell (p:=⟨b,off+j * 5+3,none⟩) hbk).trans a3;have d4:=(hrj.bel.cell (p:=⟨b,off+j * 5+4,none⟩) hbk).trans a4;have HTk:Hid (∀W,Below w.heap.size w W->Calls Tryz.prog 257 #[.slice cu j cc,.string ps[j].name] W fun e w'=>e=.returned (.bool (Qa (ps.take j) ps[j].name))/\Below W.heap.size W w'):=fun W hW=>
    zfe S (ps.take j) _ _ W (fun b hb=>Nat.lt_of_lt_of_le (hS b hb) hW.size) (zP (Keeps.below hW hS) hcut)
   have HSol:Hid (∀W,Below w.heap.size w W->Calls Tryz.prog 109 #[.agg #[.int .i64 kd,.string fo,.string na,.slice p1 p2 p3],.pointer (some ⟨mB,0,none⟩),.pointer (some ⟨lB,0,none⟩),.pointer (some ⟨fB,0,none⟩)] W (xS W (ρ ps[j].is))):=fun W hW=>
    HFv.out W _ _ hW (HTy.out _ (List.getElem_mem hlt)) ⟨_,_,_,_,rfl,hcs.keep (Keeps.below hW hS)⟩
   have hkj:j<(qF ρ ps).length:=by rw[HKl.out]; exact hlt
   have hkv:(qF ρ ps)[j]=(ρ ps[j].is).1:=JI hlt hkj;have HN:Hid (∀W1,Below wr.heap.size wr W1->RowJ w 9 1 (Qu w.heap.size) (qF ρ ps) (j+1) (W1.setCell ⟨w.heap.size,j,none⟩ (.string (ρ ps[j].is).1))):=fun W1 h1=>by
    have:=hrj.step (X4 _) h1 hkj [.string (ρ ps[j].is).1] rfl (fun hc _ _=>⟨by rw[hkv]; exact hc 0 (by simp),by rw[hkv]; exact HRo.out _⟩);rw[Nat.mul_one] at this;exact this
   have HRm:Hid (∀W1,Below wr.heap.size wr W1->(∃u,W1.cell? ⟨w.heap.size,j,none⟩=some u)/\W1.frozen? ⟨w.heap.size,j,none⟩=false):=fun W1 h1=>by
    have:=hrj.room h1 hkj 0 (by omega);rw[Nat.mul_one] at this;exact this
   have HBw:Hid (∀W,Below wr.heap.size wr W->Below w.heap.size w W):=fun W hW=>hrj.bel.trans (hW.mono hrj.bel.size)
   have HPs:=zd (K3 (ρ:=ρ) hlt);have HErr:Hid ((jO ρ ps j).2≠0->vV ρ ps=(jO ρ ps j).2):=fun h=>zbz (c:=fun i=>(jO ρ ps i).2) HAll.out h hlt
   have hbr:b<wr.heap.size:=Nat.lt_of_lt_of_le hbk hrj.bel.size;have hrlt:=hrj.lt;clear hrj a0 a1 a2 a3 a4 hat hcs HV HFv HTy HRo hcut hkv;generalize ps[j].name=nm at *;generalize ρ ps[j].is=r at *;generalize Qa (ps.take j) nm=tk at *;generalize hpj:jO ρ ps j=pj at *;obtain⟨rs,rc⟩:=r;obtain⟨W1,HW1,e0,e1,e2,e3,e4,hs1,hb1⟩:∃W1,Hid (wr.alloc (.cells #[.string nm,.int .i64 kd,.string fo,.string na,.slice p1 p2 p3] 86)=W1)/\W1.cell? ⟨wr.heap.size,0,none⟩=some (.string nm)/\W1.cell? ⟨wr.heap.size,1,none⟩=some (.int .i64 kd)/\W1.cell? ⟨wr.heap.size,2,none⟩=some (.string fo)/\W1.cell? ⟨wr.heap.size,3,none⟩=some (.string na)/\W1.cell? ⟨wr.heap.size,4,none⟩=some (.slice p1 p2 p3)/\W1.heap.size=wr.heap.size+1/\Below wr.heap.size wr W1:=
    ⟨_,rfl,by simp[go_sem],by simp[go_sem],by simp[go_sem],by simp[go_sem],by simp[go_sem],by simp,(Below.refl _ _).alloc (Nat.le_refl _) _⟩
   have HB1:=zd (HBw.out _ hb1.drew);have HB1r:=zd hb1.drew;clear hb1;go_wp2_with fail;rw[HW1.out];clear HW1
   go_region_with (go_at_call 257; refine (HTk.out _ HB1.out).mono ?_; rintro e w2 ⟨rfl,hb2⟩)
   all_goals
    have HB2:=zd (HB1.out.trans (hb2.mono HB1.out.size));have HB2r:=zd (HB1r.out.trans (hb2.mono HB1r.out.size));have hwr2:wr.heap.size<W1.drew.heap.size:=by show _<W1.heap.size; omega
    have g1:=(hb2.cell (p:=⟨wr.heap.size,1,none⟩) hwr2).trans e1;have g2:=(hb2.cell (p:=⟨wr.heap.size,2,none⟩) hwr2).trans e2;have g3:=(hb2.cell (p:=⟨wr.heap.size,3,none⟩) hwr2).trans e3;have g4:=(hb2.cell (p:=⟨wr.heap.size,4,none⟩) hwr2).trans e4;clear hb2 hwr2 e0 e1 e2 e3 e4 d0 d1 d2 d3 d4 hrun
    cases tk with
    |true=>
     have hpj2:pj.2=4:=by rw[HPs.out,if_pos rfl]
     have HE:Hid (vV ρ ps=4):=by
      show _=_;rw[HErr.out (by rw[hpj2]; decide),hpj2]
     clear HErr HPs hpj2 hpj HN HRm HAll;go_wp2_with fail;go_ret2;exact⟨_,_,_,by rw[HE.out]; rfl,fun h=>by rw[HE.out] at h; exact absurd h (by decide),HB2.out⟩
    |false=>
     have hpr:pj=(rs,rc):=by rw[HPs.out,if_neg (by decide)]
     go_wp2_with fail;refine (HSol.out _ HB2.out).mono ?_;rintro e w3 ⟨rfl,hb3⟩;have HB3:=zd (HB2.out.trans (hb3.mono HB2.out.size));have hb3r:=HB2r.out.trans (hb3.mono HB2r.out.size);obtain⟨⟨y,hy⟩,hfz⟩:=HRm.out _ hb3r;have HN':=zd (HN.out _ hb3r);clear hb3 hb3r g1 g2 g3 g4
     by_cases hc:rc=0
     ·subst hc
      have HAll':Hid (∀q,q<j+1->(jO ρ ps q).2=0):=fun q hq=>by
       by_cases hqj:q<j
       ·exact HAll.out q hqj
       ·have e:q=j:=by omega
        rw[e,hpj,hpr]
      clear HErr HPs HAll HN HRm hpr hpj;go_wp2_with fail;exact⟨⟨j+1,by omega,by go_num,HAll'.out,HN'.out⟩,by simp[intOf]; omega⟩
     ·have hc':(rc != 0)=true:=by simp[hc]
      have HE:Hid (vV ρ ps=rc):=by
       show _=_;rw[HErr.out (by rw[hpr]; exact hc),hpr]
      have HNe:Hid (¬rc=0):=hc;clear HErr HPs HAll HN HRm hpr hpj HN' hc hy hfz;go_wp2_with fail;go_ret2;exact⟨_,_,_,by rw[HE.out]; rfl,fun h=>by rw[HE.out] at h; exact absurd h HNe.out,HB3.out⟩
  ·have hnl:¬(j:Int)<(ps.length:Int):=by omega
   have hje:j=ps.length:=by omega
   subst hje;have HZ:Hid (vV ρ ps=0):=Yf HAll.out;have HW:Hid (ze (fun b=>w.heap.size<=b/\b<wr.heap.size) (zG wr) 1 (qF ρ ps) (.slice (some ⟨w.heap.size,0,none⟩) ps.length ps.length)):=by
    have h2:RowJ w 9 1 (Qu w.heap.size) (qF ρ ps) (qF ρ ps).length wr:=by rw[HKl.out]; exact hrj
    have:=h2.whole (by rw[HKl.out]; unfold maxLen; omega) (S:=fun b=>w.heap.size<=b/\b<wr.heap.size) ⟨Nat.le_refl _,hrj.lt⟩ (Q:=zG wr) (fun _ _ h=>h)
    rwa [HKl.out] at this
   have HB:=zd hrj.bel;clear hrj HV HAll HR;go_wp2_with fail;go_ret2;exact⟨_,_,_,by rw[HZ.out]; rfl,fun _=>HW.out,HB.out⟩
theorem Y5 {m:Mo} {l:List Im} (hz:∀i∈l,zH i.face):∀(u:Nat) (v:ByteArray) (under:List ByteArray) (o n:ByteArray),(qD m l u v under o n).1.size<=maxLen
 |0,v,under,o,n=>by
  unfold qD
  split
  ·split
   ·show (1:Nat)<=_
    unfold maxLen; omega
   ·split <;> exact Nat.zero_le _
  ·exact Xg hz o n
 |u+1,v,under,o,n=>by
  unfold qD
  split
  ·split
   ·show (1:Nat)<=_
    unfold maxLen; omega
   ·cases m.types[zq m n]? with
    |none=>exact Nat.zero_le _
    |some f=>
     simp only
     split
     ·exact Nat.zero_le _
     ·exact kO (fun o n=>Y5 hz u _ _ o n) 10 _
  ·exact Xg hz o n
end Go.Proofs.YtedpiamfpbdhoaaGreatDoor
