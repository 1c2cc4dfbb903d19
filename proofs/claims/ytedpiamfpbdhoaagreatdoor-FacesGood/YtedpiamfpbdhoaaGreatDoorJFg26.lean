import Derived.Test.YtedpiamfpbdhoaaGreatDoorJFg25
set_option maxHeartbeats 40000000
set_option maxRecDepth 100000
namespace Go.Proofs.YtedpiamfpbdhoaaGreatDoor
open Go.RowKit
theorem zgU (ps:List Kn) (s:ByteArray):(xV ps s).2=0\/xV ps s=xq 6:=by
 by_cases h:kV ps s<ps.length
 ·rw[Jk h]; exact Or.inl rfl
 ·rw[Yk h]; exact Or.inr rfl
theorem zcv (ps:List Kn) (lB kB oB mB iB:Nat) (w W:World) (s:ByteArray) (hW:Below w.heap.size w W)
  (HPar:∀W s,Below w.heap.size w W->Calls Tryz.prog 267 #[.string s,.pointer (some ⟨lB,0,none⟩),.pointer (some ⟨kB,0,none⟩)] W fun e w'=>e=.returned (.tuple #[.string (xV ps s).1,.bool ((xV ps s).2==0)])/\Below W.heap.size W w') :
  Calls Tryz.prog 272 #[.agg #[.func (.func 267) #[] #[.pointer (some ⟨lB,0,none⟩),.pointer (some ⟨kB,0,none⟩)],.func (.func 269) #[] #[.pointer (some ⟨oB,0,none⟩),.pointer (some ⟨mB,0,none⟩),.pointer (some ⟨iB,0,none⟩)]],.string s] W fun e w'=>e=.returned (.tuple #[.string (xV ps s).1,.int .i64 (xV ps s).2])/\Below W.heap.size W w':=by
 have hb:Below W.heap.size W (W.alloc (.cells #[.func (.func 267) #[] #[.pointer (some ⟨lB,0,none⟩),.pointer (some ⟨kB,0,none⟩)],.func (.func 269) #[] #[.pointer (some ⟨oB,0,none⟩),.pointer (some ⟨mB,0,none⟩),.pointer (some ⟨iB,0,none⟩)]] 247)):=(Below.refl _ _).alloc (Nat.le_refl _) _;have HP:=zd (HPar _ s (hW.trans (hb.mono hW.size)));have HB:=zd hb;have HI:=zd (zgU ps s);clear HPar hb hW;generalize xV ps s=r at *;obtain⟨rs,rc⟩:=r
 rcases HI.out with h|h
 ·change rc=0 at h
  subst h;clear HI;go_enter Tryz.func272,Tryz.ntmps272;go_wp2_with fail;refine HP.out.mono ?_;rintro e w3 ⟨rfl,hb3⟩;have HB3:=zd (HB.out.trans (hb3.mono HB.out.size));clear hb3;go_wp2_with fail;go_ret2;exact⟨rfl,HB3.out⟩
 ·obtain⟨rfl,rfl⟩:rs=⟨#[]⟩/\rc=6:=by
   unfold xq at h;injection h with h1 h2
   exact⟨h1,h2⟩
  clear HI h;go_enter Tryz.func272,Tryz.ntmps272;go_wp2_with fail;refine HP.out.mono ?_;rintro e w3 ⟨rfl,hb3⟩;have HB3:=zd (HB.out.trans (hb3.mono HB.out.size));clear hb3;go_wp2_with fail;go_ret2;exact⟨rfl,HB3.out⟩
def yb (ps:List Kn) (fc:ByteArray->Fc) (xs:List Ex):Int:=zt Prod.snd (vL ps fc xs)
def yy (ps:List Kn) (fc:ByteArray->Fc) (xs:List Ex):List ByteArray:=xs.map (fun x=>(qk ps fc x).1)
def zd5 (ps:List Kn) (fc:ByteArray->Fc) (xs:List Ex) (W:World) (e:Ending) (w':World):Prop:=
 ∃a n cap,e=.returned (.tuple #[.slice a n cap,.int .i64 (yb ps fc xs)])/\(yb ps fc xs=0->ze (fun b=>b<w'.heap.size) (zG w') 1 (yy ps fc xs) (.slice a n cap))/\Below W.heap.size W w'
theorem zfz {ps:List Kn} {fc:ByteArray->Fc} {xs:List Ex} (h:∀q (hq:q<xs.length),(qk ps fc xs[q]).2=0):yb ps fc xs=0:=by
 unfold yb;rw[Xl,Q7];exact qW (fun x=>(qk ps fc x).2) xs h
theorem zhO {ps:List Kn} {fc:ByteArray->Fc} {xs:List Ex} {j:Nat} (hj:j<xs.length) (h:∀q (hq:q<j),(qk ps fc (xs[q]'(by omega))).2=0) (hb:(qk ps fc xs[j]).2≠0):yb ps fc xs=(qk ps fc xs[j]).2:=by
 unfold yb;rw[Xl,Q7];exact jn (fun x=>(qk ps fc x).2) xs j hj h hb
theorem JV {ps:List Kn} {fc:ByteArray->Fc} {k:Int} {sg:Sg} {xs:List Ex}:jZ k sg (vL ps fc xs)=if yb ps fc xs=0 then xf k sg (yy ps fc xs) else xq (yb ps fc xs):=by
 unfold jZ yb yy;rw[Xl,List.map_map]
 rfl
theorem zgV (S:Nat->Prop) (ps:List Kn) (fc:ByteArray->Fc) (lB kB oB mB iB:Nat) (w W:World) (hS:∀b,S b->b<w.heap.size) (hW:Below w.heap.size w W) (d:Nat)
  (HExpr:∀(x:Ex) (v:Value) (W:World),Below w.heap.size w W->zx x (d+1)=0->yC S w x v->Calls Tryz.prog 195 #[.agg #[.func (.func 267) #[] #[.pointer (some ⟨lB,0,none⟩),.pointer (some ⟨kB,0,none⟩)],.func (.func 269) #[] #[.pointer (some ⟨oB,0,none⟩),.pointer (some ⟨mB,0,none⟩),.pointer (some ⟨iB,0,none⟩)]],v] W (jk ps fc x W))
  (xs:List Ex) (v:Value) (h8:xs.length<=8) (hx:xO xs (d+1)=0) (hv:ze S (yB S w) 5 xs v) (hSz:∀x,(qk ps fc x).1.size<=281474976710656) :
  Calls Tryz.prog 274 #[.agg #[.func (.func 267) #[] #[.pointer (some ⟨lB,0,none⟩),.pointer (some ⟨kB,0,none⟩)],.func (.func 269) #[] #[.pointer (some ⟨oB,0,none⟩),.pointer (some ⟨mB,0,none⟩),.pointer (some ⟨iB,0,none⟩)]],v] W (zd5 ps fc xs W):=by
 have hr:=reachBytes_lt;have HV:=zd hv;obtain⟨a,cap,rfl⟩:=hv.is;have hlen:xs.length<=9223372036854775807:=by omega
 have hkl:(yy ps fc xs).length=xs.length:=List.length_map ..;obtain⟨arr,harr,hmk⟩:=QX Tryz.underlying37 V4 xs.length (by omega) (by unfold maxLen; omega);obtain⟨w0,hw0,hb0,hs0,n0,n1⟩:∃w0,W.alloc (.cells #[.func (.func 267) #[] #[.pointer (some ⟨lB,0,none⟩),.pointer (some ⟨kB,0,none⟩)],.func (.func 269) #[] #[.pointer (some ⟨oB,0,none⟩),.pointer (some ⟨mB,0,none⟩),.pointer (some ⟨iB,0,none⟩)]] 247)=w0/\Below W.heap.size W w0/\w0.heap.size=W.heap.size+1/\w0.cell? ⟨W.heap.size,0,none⟩=some (.func (.func 267) #[] #[.pointer (some ⟨lB,0,none⟩),.pointer (some ⟨kB,0,none⟩)])/\w0.cell? ⟨W.heap.size,1,none⟩=some (.func (.func 269) #[] #[.pointer (some ⟨oB,0,none⟩),.pointer (some ⟨mB,0,none⟩),.pointer (some ⟨iB,0,none⟩)]):=⟨_,rfl,(Below.refl _ _).alloc (Nat.le_refl _) _,by simp,by simp[go_sem],by simp[go_sem]⟩
 have HJ:Hid (RowJ w0 9 1 (Qu w0.heap.size) (yy ps fc xs) 0 (w0.alloc (.cells arr 9))):=RowJ.start (by rw[hkl]; exact harr);have HEx:=zd HExpr;have HXs:=zd (zbK hx);have HKl:=zd hkl;have HW0:=zd hw0;have HB0:=zd hb0;have HwW:=zd hW;have HN:Hid (∀W',Below w0.heap.size w0 W'->W'.cell? ⟨W.heap.size,0,none⟩=some (.func (.func 267) #[] #[.pointer (some ⟨lB,0,none⟩),.pointer (some ⟨kB,0,none⟩)])/\W'.cell? ⟨W.heap.size,1,none⟩=some (.func (.func 269) #[] #[.pointer (some ⟨oB,0,none⟩),.pointer (some ⟨mB,0,none⟩),.pointer (some ⟨iB,0,none⟩)])/\Below w.heap.size w W'/\Below W.heap.size W W'):=fun W' h=>by
  have l0:W.heap.size<w0.heap.size:=by omega
  exact⟨(h.cell (p:=⟨W.heap.size,0,none⟩) l0).trans n0,(h.cell (p:=⟨W.heap.size,1,none⟩) l0).trans n1,hW.trans ((hb0.trans (h.mono hb0.size)).mono hW.size),hb0.trans (h.mono hb0.size)⟩
 have HZ:=zd hSz;have hs0':W.heap.size<w0.heap.size:=by omega
 clear hv harr HExpr hx hkl hw0 hb0 hW hs0 n0 n1 hSz;go_enter Tryz.func274,Tryz.ntmps274;go_wp2_with (first|(rw[HW0.out]; clear HW0)|fail);clear hmk
 go_loopw [16] (fun i wr=>∃j:Nat,j<=xs.length/\i=.int .i64 j/\(∀q (_:q<j) (hq:q<xs.length),(qk ps fc xs[q]).2=0)/\RowJ w0 9 1 (Qu w0.heap.size) (yy ps fc xs) j wr) (fun i _=>xs.length - (intOf i).toNat)
 case atStart=>exact⟨0,Nat.zero_le _,rfl,(fun q h=>by omega),HJ.out⟩
 case round=>
  obtain⟨j,hj,rfl,hall,hrj⟩:=hrel;have HAll:=zd hall;have HR:=zd hrj;obtain⟨n0,n1,hbw,hbW⟩:=HN.out wr hrj.bel;clear HJ hall
  by_cases hlt:j<xs.length
  ·have hlt':(j:Int)<(xs.length:Int):=by omega
   have hj0:(0:Int)<=(j:Int):=by omega
   obtain⟨_,b,off,rfl,hbk,hat⟩:=HV.out.at hlt;obtain⟨kd,nu,fo,na,va,c0,c1,c2,c3,c4,hcs⟩:=qU.1 hat;obtain⟨va1,va2,va3,rfl⟩:=hcs.slice;have hbk':=hS b hbk;have d0:=(hbw.cell (p:=⟨b,off+j * 5,none⟩) hbk').trans c0;have d1:=(hbw.cell (p:=⟨b,off+j * 5+1,none⟩) hbk').trans c1;have d2:=(hbw.cell (p:=⟨b,off+j * 5+2,none⟩) hbk').trans c2;have d3:=(hbw.cell (p:=⟨b,off+j * 5+3,none⟩) hbk').trans c3;have d4:=(hbw.cell (p:=⟨b,off+j * 5+4,none⟩) hbk').trans c4;have HCall:Hid (∀W',Below w.heap.size w W'->Calls Tryz.prog 195 #[.agg #[.func (.func 267) #[] #[.pointer (some ⟨lB,0,none⟩),.pointer (some ⟨kB,0,none⟩)],.func (.func 269) #[] #[.pointer (some ⟨oB,0,none⟩),.pointer (some ⟨mB,0,none⟩),.pointer (some ⟨iB,0,none⟩)]],.agg #[.int .i64 kd,.int .i64 nu,.string fo,.string na,.slice va1 va2 va3]] W' (jk ps fc xs[j] W')):=fun W' hW'=>
    HEx.out xs[j] _ W' hW' (HXs.out _ (List.getElem_mem hlt)) ⟨_,_,_,_,_,rfl,hcs⟩
   have hkj:j<(yy ps fc xs).length:=by rw[HKl.out]; exact hlt
   have hkv:(yy ps fc xs)[j]=(qk ps fc xs[j]).1:=List.getElem_map ..;have hsz:(qk ps fc xs[j]).1.size<=maxLen:=Nat.le_trans (HZ.out _) (by unfold maxLen; omega);have HN2:Hid (∀W1,Below wr.heap.size wr W1->RowJ w0 9 1 (Qu w0.heap.size) (yy ps fc xs) (j+1) (W1.setCell ⟨w0.heap.size,j,none⟩ (.string (qk ps fc xs[j]).1))):=fun W1 h1=>by
    have:=hrj.step (X4 _) h1 hkj [.string (qk ps fc xs[j]).1] rfl (fun hc _ _=>⟨by rw[hkv]; exact hc 0 (by simp),by rw[hkv]; exact hsz⟩);rw[Nat.mul_one] at this;exact this
   have HRm:Hid (∀W1,Below wr.heap.size wr W1->(∃u,W1.cell? ⟨w0.heap.size,j,none⟩=some u)/\W1.frozen? ⟨w0.heap.size,j,none⟩=false):=fun W1 h1=>by
    have:=hrj.room h1 hkj 0 (by omega);rw[Nat.mul_one] at this;exact this
   have HBw:Hid (∀W1,Below wr.heap.size wr W1->Below w.heap.size w W1):=fun W1 h1=>hbw.trans (h1.mono hbw.size)
   have HBW:Hid (∀W1,Below wr.heap.size wr W1->Below W.heap.size W W1):=fun W1 h1=>hbW.trans (h1.mono hbW.size)
   have HBad:Hid ((qk ps fc xs[j]).2≠0->yb ps fc xs=(qk ps fc xs[j]).2):=fun h=>zhO hlt (fun q hq=>HAll.out q hq (by omega)) h
   have HAll':Hid ((qk ps fc xs[j]).2=0->∀q (_:q<j+1) (hq:q<xs.length),(qk ps fc xs[q]).2=0):=fun h q hq hq'=>by
    by_cases e:q=j
    ·subst e; exact h
    ·exact HAll.out q (by omega) hq'
   have hrlt:=hrj.lt;clear hrj c0 c1 c2 c3 c4 hat hcs HV HEx HXs hkv hsz hbw hbW HAll HR HZ;unfold jk at HCall;generalize qk ps fc xs[j]=r at *;obtain⟨rs,rc⟩:=r;obtain⟨W1,HW1,e0,e1,e2,e3,e4,m0,m1,hs1,hb1⟩:∃W1,Hid (wr.alloc (.cells #[.int .i64 kd,.int .i64 nu,.string fo,.string na,.slice va1 va2 va3] 70)=W1)/\W1.cell? ⟨wr.heap.size,0,none⟩=some (.int .i64 kd)/\W1.cell? ⟨wr.heap.size,1,none⟩=some (.int .i64 nu)/\W1.cell? ⟨wr.heap.size,2,none⟩=some (.string fo)/\W1.cell? ⟨wr.heap.size,3,none⟩=some (.string na)/\W1.cell? ⟨wr.heap.size,4,none⟩=some (.slice va1 va2 va3)/\W1.cell? ⟨W.heap.size,0,none⟩=some (.func (.func 267) #[] #[.pointer (some ⟨lB,0,none⟩),.pointer (some ⟨kB,0,none⟩)])/\W1.cell? ⟨W.heap.size,1,none⟩=some (.func (.func 269) #[] #[.pointer (some ⟨oB,0,none⟩),.pointer (some ⟨mB,0,none⟩),.pointer (some ⟨iB,0,none⟩)])/\W1.heap.size=wr.heap.size+1/\Below wr.heap.size wr W1:=by
    have hb:Below wr.heap.size wr (wr.alloc (.cells #[.int .i64 kd,.int .i64 nu,.string fo,.string na,.slice va1 va2 va3] 70)):=(Below.refl _ _).alloc (Nat.le_refl _) _;have ln:=World.block_lt_of_cell? _ _ n0;exact⟨_,rfl,by simp[go_sem],by simp[go_sem],by simp[go_sem],by simp[go_sem],by simp[go_sem],(hb.cell (p:=⟨W.heap.size,0,none⟩) ln).trans n0,(hb.cell (p:=⟨W.heap.size,1,none⟩) ln).trans n1,by simp,hb⟩
   have HB1:=zd hb1;clear hb1 n0 n1;go_wp2_with (first|(rw[HW1.out]; clear HW1)|fail);refine (HCall.out _ (HBw.out _ HB1.out)).mono ?_;rintro e w3 ⟨rfl,hb3⟩;have hb13:=HB1.out.trans (hb3.mono HB1.out.size);obtain⟨⟨y,hy⟩,hfz⟩:=HRm.out _ hb13;have HN3:=zd (HN2.out _ hb13);have HBW3:=zd (HBW.out _ hb13);clear hb3 hb13 HCall HN2 HRm HBw HBW HN e0 e1 e2 e3 e4 m0 m1 d0 d1 d2 d3 d4 hs1
   by_cases hc:rc=0
   ·subst hc
    have HAll3:=zd (HAll'.out rfl);clear HAll' HBad;go_wp2_with fail;exact⟨⟨j+1,by omega,by go_num,HAll3.out,HN3.out⟩,by simp[intOf]; omega⟩
   ·have hc':(rc != 0)=true:=by simp[hc]
    have HBd:=zd (HBad.out hc);have HNe:Hid (¬rc=0):=hc;clear HAll' HBad hc hy hfz;go_wp2_with fail;go_ret2;exact⟨_,_,_,by rw[HBd.out]; rfl,fun h=>by rw[HBd.out] at h; exact absurd h HNe.out,HBW3.out⟩
  ·have hnl:¬(j:Int)<(xs.length:Int):=by omega
   have hje:j=xs.length:=by omega
   subst hje;have HZ0:Hid (yb ps fc xs=0):=zfz (fun q hq=>HAll.out q hq hq);have HWh:Hid (ze (fun b=>b<wr.heap.size) (zG wr) 1 (yy ps fc xs) (.slice (some ⟨w0.heap.size,0,none⟩) xs.length xs.length)):=by
    have h2:RowJ w0 9 1 (Qu w0.heap.size) (yy ps fc xs) (yy ps fc xs).length wr:=by rw[HKl.out]; exact hrj
    have:=h2.whole (by rw[HKl.out]; unfold maxLen; omega) (S:=fun b=>b<wr.heap.size) hrj.lt (Q:=zG wr) (fun _ _ h=>h)
    rwa [HKl.out] at this
   have HBW:=zd hbW;clear hrj HV HAll HR hbW hbw n0 n1 HEx HXs HZ HN;go_wp2_with fail;go_ret2;exact⟨_,_,_,by rw[HZ0.out]; rfl,fun _=>HWh.out,HBW.out⟩
theorem zgW (sg:Sg) (is:List ByteArray):xf 4 sg is=vX (yw sg.params is sg.result) (qS sg.params is sg.result==0):=by
 unfold xf vX;rw[if_pos rfl]
 by_cases h:qS sg.params is sg.result=0
 ·rw[if_pos h,h]; rfl
 ·rw[if_neg h,if_neg (by simpa using h)]
theorem zgX (ps:List Kn) (fc:ByteArray->Fc) (lB kB oB mB iB:Nat) (w W:World) (hW:Below w.heap.size w W)
  (HFun:∀W o s,Below w.heap.size w W->Calls Tryz.prog 269 #[.string o,.string s,.pointer (some ⟨oB,0,none⟩),.pointer (some ⟨mB,0,none⟩),.pointer (some ⟨iB,0,none⟩)] W fun e w'=>∃a n cap,e=.returned (.tuple #[.agg #[.string (zJ (fc o) s).name,.slice a n cap,.string (zJ (fc o) s).result],.bool (yx (fc o) s==0)])/\qB (fun b=>b<w'.heap.size) w' (zJ (fc o) s) (.agg #[.string (zJ (fc o) s).name,.slice a n cap,.string (zJ (fc o) s).result])/\Below W.heap.size W w')
  (num:Int) (o s:ByteArray) (xs:List Ex) (v:Value) (hvs:∃a c,v=.slice a xs.length c)
  (HEach:∀W,Below w.heap.size w W->Calls Tryz.prog 274 #[.agg #[.func (.func 267) #[] #[.pointer (some ⟨lB,0,none⟩),.pointer (some ⟨kB,0,none⟩)],.func (.func 269) #[] #[.pointer (some ⟨oB,0,none⟩),.pointer (some ⟨mB,0,none⟩),.pointer (some ⟨iB,0,none⟩)]],v] W (zd5 ps fc xs W)) :
  Calls Tryz.prog 273 #[.agg #[.func (.func 267) #[] #[.pointer (some ⟨lB,0,none⟩),.pointer (some ⟨kB,0,none⟩)],.func (.func 269) #[] #[.pointer (some ⟨oB,0,none⟩),.pointer (some ⟨mB,0,none⟩),.pointer (some ⟨iB,0,none⟩)]],.agg #[.int .i64 4,.int .i64 num,.string o,.string s,v]] W (jk ps fc (.mk 4 num o s xs) W):=by
 obtain⟨xa,xc,rfl⟩:=hvs;have HE:Hid (qk ps fc (.mk 4 num o s xs)=if ZX fc o s xs.length=0 then jZ 4 (zJ (fc o) s) (vL ps fc xs) else xq (ZX fc o s xs.length)):=by show _=_; rw[qk,if_neg (by omega),if_neg (by omega),if_neg (by omega),if_pos rfl]
 have HCe:Hid (ZX fc o s xs.length=if yx (fc o) s=0 then (if (zJ (fc o) s).params.length=xs.length then 0 else 7) else 6):=rfl;have HF:=zd (fun W=>HFun W o s);unfold jk;clear HFun;generalize qk ps fc (.mk 4 num o s xs)=ans at *;generalize ZX fc o s xs.length=ce at *;generalize hfe:yx (fc o) s=fe at *;generalize hsg:zJ (fc o) s=sg at *;clear hfe hsg;obtain⟨W2,hwe,hs2,hbel,n0,n1,x0,x1,x2,x3,x4⟩:∃W2,(W.alloc (.cells #[.func (.func 267) #[] #[.pointer (some ⟨lB,0,none⟩),.pointer (some ⟨kB,0,none⟩)],.func (.func 269) #[] #[.pointer (some ⟨oB,0,none⟩),.pointer (some ⟨mB,0,none⟩),.pointer (some ⟨iB,0,none⟩)]] 247)).alloc (.cells #[.int .i64 4,.int .i64 num,.string o,.string s,.slice xa xs.length xc] 70)=W2/\W2.heap.size=W.heap.size+2/\Below W.heap.size W W2/\W2.cell? ⟨W.heap.size,0,none⟩=some (.func (.func 267) #[] #[.pointer (some ⟨lB,0,none⟩),.pointer (some ⟨kB,0,none⟩)])/\W2.cell? ⟨W.heap.size,1,none⟩=some (.func (.func 269) #[] #[.pointer (some ⟨oB,0,none⟩),.pointer (some ⟨mB,0,none⟩),.pointer (some ⟨iB,0,none⟩)])/\W2.cell? ⟨W.heap.size+1,0,none⟩=some (.int .i64 4)/\W2.cell? ⟨W.heap.size+1,1,none⟩=some (.int .i64 num)/\W2.cell? ⟨W.heap.size+1,2,none⟩=some (.string o)/\W2.cell? ⟨W.heap.size+1,3,none⟩=some (.string s)/\W2.cell? ⟨W.heap.size+1,4,none⟩=some (.slice xa xs.length xc):=
  ⟨_,rfl,by simp,((Below.refl _ _).alloc (Nat.le_refl _) _).alloc (by simp) _,by simp[go_sem],by simp[go_sem],by simp[go_sem],by simp[go_sem],by simp[go_sem],by simp[go_sem],by simp[go_sem]⟩
 have l0:W.heap.size<W2.heap.size:=by omega
 have l1:W.heap.size+1<W2.heap.size:=by omega
 have HBox:Hid (∀W',Below W2.heap.size W2 W'->(W'.cell? ⟨W.heap.size,0,none⟩=some (.func (.func 267) #[] #[.pointer (some ⟨lB,0,none⟩),.pointer (some ⟨kB,0,none⟩)])/\W'.cell? ⟨W.heap.size,1,none⟩=some (.func (.func 269) #[] #[.pointer (some ⟨oB,0,none⟩),.pointer (some ⟨mB,0,none⟩),.pointer (some ⟨iB,0,none⟩)])/\W'.cell? ⟨W.heap.size+1,4,none⟩=some (.slice xa xs.length xc))/\Below W.heap.size W W'/\Below w.heap.size w W'):=fun W' h=>by
  have hb:=hbel.trans (h.mono hbel.size);exact⟨⟨(h.cell (p:=⟨W.heap.size,0,none⟩) l0).trans n0,(h.cell (p:=⟨W.heap.size,1,none⟩) l0).trans n1,(h.cell (p:=⟨W.heap.size+1,4,none⟩) l1).trans x4⟩,hb,hW.trans (hb.mono hW.size)⟩
 have HWe:=zd hwe;have HF2:=zd (HF.out W2 (hW.trans (hbel.mono hW.size)));have HEv:=zd HEach;clear hwe hbel hW HF HEach hs2;generalize hsn:sg.name=sn at *;generalize hsr:sg.result=sr at *;have HSn:=zd hsn;have HSr:=zd hsr;clear hsn hsr;go_enter Tryz.func273,Tryz.ntmps273;go_wp2_with (first|(rw[HWe.out]; clear HWe)|fail);refine HF2.out.mono ?_;rintro e w3 ⟨ga,gn,gc,rfl,hsg,hb3⟩;obtain⟨W4,HW4,hb4,hs4,e0,e1,e2⟩:∃W4,Hid (w3.alloc (.cells #[.string sn,.slice ga gn gc,.string sr] 76)=W4)/\Below w3.heap.size w3 W4/\W4.heap.size=w3.heap.size+1/\W4.cell? ⟨w3.heap.size,0,none⟩=some (.string sn)/\W4.cell? ⟨w3.heap.size,1,none⟩=some (.slice ga gn gc)/\W4.cell? ⟨w3.heap.size,2,none⟩=some (.string sr):=
  ⟨_,rfl,(Below.refl _ _).alloc (Nat.le_refl _) _,by simp,by simp[go_sem],by simp[go_sem],by simp[go_sem]⟩
 have hsg4:=hsg.keep (S':=fun b=>b<W4.heap.size) ⟨fun b hb=>hb4.block b hb,fun b hb=>Nat.lt_of_lt_of_le hb hb4.size⟩;have hb24:=hb3.trans (hb4.mono hb3.size);obtain⟨⟨k0,k1,k4⟩,hbW,hbw⟩:=HBox.out _ hb24;obtain⟨hgn,hgr,hgp⟩:=JT (g:=sg) (by rw[HSn.out,HSr.out]; exact hsg4);rw[HSr.out] at hgr;have HGp:Hid (∀W',Below W4.heap.size W4 W'->jy W' (.slice ga gn gc) sg.params):=fun W' h=>K9 (zU (Keeps.below h (fun _ h=>h)) hgp)
 have HGr:=zd hgr;have HB24:=zd hb24;have HBW:=zd hbW;have HBw:=zd hbw;have h34:w3.heap.size<W4.heap.size:=by omega
 subst hgn;have hgl:=hgp.len;unfold maxLen at hgl;clear hsg hsg4 hb3 hb4 hb24 hbW hbw hgp hgr hs4 HF2 n0 n1 x0 x1 x2 x3
 by_cases hfe:fe=0
 ·subst hfe
  by_cases hln:sg.params.length=xs.length
  ·have hce:ce=0:=by rw[HCe.out,if_pos rfl,if_pos hln]
   have HR:Hid (ans=jZ 4 sg (vL ps fc xs)):=by show _=_; rw[HE.out,if_pos hce]
   have hne:((xs.length:Int) != (sg.params.length:Int))=false:=by simp[hln]
   clear HCe hce HE hln;go_wp2_with (first|(rw[HW4.out]; clear HW4)|fail);refine (HEv.out _ HBw.out).mono ?_;rintro e w5 ⟨ra,rn,rc,rfl,hrow,hb5⟩;have f1:=(hb5.cell (p:=⟨w3.heap.size,1,none⟩) h34).trans e1;have f2:=(hb5.cell (p:=⟨w3.heap.size,2,none⟩) h34).trans e2;have HB5:=zd (HBW.out.trans (hb5.mono HBW.out.size));have HGp5:=zd (HGp.out _ hb5);have HEnd:Hid (jZ 4 sg (vL ps fc xs)=if yb ps fc xs=0 then xf 4 sg (yy ps fc xs) else xq (yb ps fc xs)):=JV;have HRow:Hid (yb ps fc xs=0->ze (fun b=>b<w5.heap.size) (zG w5) 1 (yy ps fc xs) (.slice ra rn rc)):=hrow;clear hb5 hrow e0 e1 e2 HGp HB24 HBW HBw HEv HBox k0 k1 k4;generalize yb ps fc xs=ee at *;generalize yy ps fc xs=is at *
   by_cases hee:ee=0
   ·subst hee
    have hrow:=HRow.out rfl;have HAll:Hid (Calls Tryz.prog 301 #[.slice ga sg.params.length gc,.slice ra rn rc,.string sr] w5 fun e w'=>e=.returned (.tuple #[.string (yw sg.params is sr),.int .i64 (qS sg.params is sr)])/\Below w5.heap.size w5 w'):=zhJ _ _ _ _ _ HGr.out w5 HGp5.out (K9 hrow);have HF4:Hid (ans=vX (yw sg.params is sr) (qS sg.params is sr==0)):=by show _=_; rw[HR.out,HEnd.out,if_pos rfl,zgW,HSr.out]
    clear HRow HEnd HR hrow HGp5 HGr;generalize yw sg.params is sr=av at *;generalize qS sg.params is sr=ae at *;go_wp2_with fail;refine HAll.out.mono ?_;rintro e w6 ⟨rfl,hb6⟩;have HB6:=zd (HB5.out.trans (hb6.mono HB5.out.size));clear hb6;go_wp2_with fail;refine (VM av (ae==0) _).mono ?_;rintro e w7 ⟨rfl,rfl⟩;go_wp2_with fail;go_ret2;exact⟨by rw[HF4.out]; rfl,HB6.out⟩
   ·have HA:Hid (ans=xq ee):=by show _=_; rw[HR.out,HEnd.out,if_neg hee]
    have hee':(ee != 0)=true:=by simp[hee]
    clear HRow HEnd HR HGp5 HGr hee;go_wp2_with fail;go_ret2;exact⟨by rw[HA.out]; rfl,HB5.out⟩
  ·have hce:ce=7:=by rw[HCe.out,if_pos rfl,if_neg hln]
   have HR:Hid (ans=xq 7):=by show _=_; rw[HE.out,hce,if_neg (by decide)]
   have hne:((xs.length:Int) != (sg.params.length:Int))=true:=by simp; omega
   clear HCe hce HE hln HEv HGp HGr;go_wp2_with (first|(rw[HW4.out]; clear HW4)|fail);go_ret2;exact⟨by rw[HR.out]; rfl,HBW.out⟩
 ·have hce:ce=6:=by rw[HCe.out,if_neg hfe]
  have HR:Hid (ans=xq 6):=by show _=_; rw[HE.out,hce,if_neg (by decide)]
  have hfe':(fe==0)=false:=by simp[hfe]
  clear HCe hce HE HEv HGp HGr hfe;go_wp2_with (first|(rw[HW4.out]; clear HW4)|fail);go_ret2;exact⟨by rw[HR.out]; rfl,HBW.out⟩
theorem zfA (S:Nat->Prop) (ps:List Kn) (fc:ByteArray->Fc) (lB kB oB mB iB:Nat) (w W:World) (hS:∀b,S b->b<w.heap.size) (hW:Below w.heap.size w W) (d:Nat)
  (HPar:∀W s,Below w.heap.size w W->Calls Tryz.prog 267 #[.string s,.pointer (some ⟨lB,0,none⟩),.pointer (some ⟨kB,0,none⟩)] W fun e w'=>e=.returned (.tuple #[.string (xV ps s).1,.bool ((xV ps s).2==0)])/\Below W.heap.size W w')
  (HFun:∀W o s,Below w.heap.size w W->Calls Tryz.prog 269 #[.string o,.string s,.pointer (some ⟨oB,0,none⟩),.pointer (some ⟨mB,0,none⟩),.pointer (some ⟨iB,0,none⟩)] W fun e w'=>∃a n cap,e=.returned (.tuple #[.agg #[.string (zJ (fc o) s).name,.slice a n cap,.string (zJ (fc o) s).result],.bool (yx (fc o) s==0)])/\qB (fun b=>b<w'.heap.size) w' (zJ (fc o) s) (.agg #[.string (zJ (fc o) s).name,.slice a n cap,.string (zJ (fc o) s).result])/\Below W.heap.size W w')
  (HExpr:∀(x:Ex) (v:Value) (W:World),Below w.heap.size w W->zx x (d+1)=0->yC S w x v->Calls Tryz.prog 195 #[.agg #[.func (.func 267) #[] #[.pointer (some ⟨lB,0,none⟩),.pointer (some ⟨kB,0,none⟩)],.func (.func 269) #[] #[.pointer (some ⟨oB,0,none⟩),.pointer (some ⟨mB,0,none⟩),.pointer (some ⟨iB,0,none⟩)]],v] W (jk ps fc x W))
  (x:Ex) (v:Value) (hx:zx x d=0) (hv:yC S w x v) (hSz:∀x,(qk ps fc x).1.size<=281474976710656) :
  Calls Tryz.prog 195 #[.agg #[.func (.func 267) #[] #[.pointer (some ⟨lB,0,none⟩),.pointer (some ⟨kB,0,none⟩)],.func (.func 269) #[] #[.pointer (some ⟨oB,0,none⟩),.pointer (some ⟨mB,0,none⟩),.pointer (some ⟨iB,0,none⟩)]],v] W (jk ps fc x W):=by
 obtain⟨k,num,o,s,xv,rfl,xs,rfl,_,_,hsl⟩:=hv;obtain⟨_,hk7,h8,_,hcf,hxs⟩:=zbO hx;have HEach:Hid (∀W,Below w.heap.size w W->Calls Tryz.prog 274 #[.agg #[.func (.func 267) #[] #[.pointer (some ⟨lB,0,none⟩),.pointer (some ⟨kB,0,none⟩)],.func (.func 269) #[] #[.pointer (some ⟨oB,0,none⟩),.pointer (some ⟨mB,0,none⟩),.pointer (some ⟨iB,0,none⟩)]],xv] W (zd5 ps fc xs W)):=fun W hW=>
  zgV S ps fc lB kB oB mB iB w W hS hW d HExpr xs xv (by omega) hxs hsl hSz
 obtain⟨xa,xc,rfl⟩:=hsl.is;obtain⟨W2,hwe,hs2,hbel,n0,n1,x0,x1,x2,x3,x4⟩:∃W2,(W.alloc (.cells #[.func (.func 267) #[] #[.pointer (some ⟨lB,0,none⟩),.pointer (some ⟨kB,0,none⟩)],.func (.func 269) #[] #[.pointer (some ⟨oB,0,none⟩),.pointer (some ⟨mB,0,none⟩),.pointer (some ⟨iB,0,none⟩)]] 247)).alloc (.cells #[.int .i64 k,.int .i64 num,.string o,.string s,.slice xa xs.length xc] 70)=W2/\W2.heap.size=W.heap.size+2/\Below W.heap.size W W2/\W2.cell? ⟨W.heap.size,0,none⟩=some (.func (.func 267) #[] #[.pointer (some ⟨lB,0,none⟩),.pointer (some ⟨kB,0,none⟩)])/\W2.cell? ⟨W.heap.size,1,none⟩=some (.func (.func 269) #[] #[.pointer (some ⟨oB,0,none⟩),.pointer (some ⟨mB,0,none⟩),.pointer (some ⟨iB,0,none⟩)])/\W2.cell? ⟨W.heap.size+1,0,none⟩=some (.int .i64 k)/\W2.cell? ⟨W.heap.size+1,1,none⟩=some (.int .i64 num)/\W2.cell? ⟨W.heap.size+1,2,none⟩=some (.string o)/\W2.cell? ⟨W.heap.size+1,3,none⟩=some (.string s)/\W2.cell? ⟨W.heap.size+1,4,none⟩=some (.slice xa xs.length xc):=
  ⟨_,rfl,by simp,((Below.refl _ _).alloc (Nat.le_refl _) _).alloc (by simp) _,by simp[go_sem],by simp[go_sem],by simp[go_sem],by simp[go_sem],by simp[go_sem],by simp[go_sem],by simp[go_sem]⟩
 have l1:W.heap.size+1<W2.heap.size:=by omega
 have hw2:Below w.heap.size w W2:=hW.trans (hbel.mono hW.size);have HWe:=zd hwe;have HBel:=zd hbel;unfold jk
 by_cases e1:k=1
 ·subst e1
  have HE:Hid (qk ps fc (.mk 1 num o s xs)=(Qv,0)):=by show _=_; rw[qk,if_pos rfl]
  generalize qk ps fc (.mk 1 num o s xs)=ans at *;clear HPar HFun HExpr HEach hsl hx hxs hcf hk7 hSz hS hwe hbel;go_enter Tryz.func195,Tryz.ntmps195;go_wp2_with (first|(rw[HWe.out]; clear HWe)|fail);go_ret2;exact⟨by rw[HE.out]; rfl,HBel.out⟩
 by_cases e2:k=2
 ·subst e2
  have HE:Hid (qk ps fc (.mk 2 num o s xs)=(ZB,0)):=by show _=_; rw[qk,if_neg (by decide),if_pos rfl]
  generalize qk ps fc (.mk 2 num o s xs)=ans at *;clear HPar HFun HExpr HEach hsl hx hxs hcf hk7 hSz hS hwe hbel e1;go_enter Tryz.func195,Tryz.ntmps195;go_wp2_with (first|(rw[HWe.out]; clear HWe)|fail);go_ret2;exact⟨by rw[HE.out]; rfl,HBel.out⟩
 by_cases e3:k=3
 ·subst e3
  have HE:Hid (qk ps fc (.mk 3 num o s xs)=xV ps s):=by show _=_; rw[qk,if_neg (by decide),if_neg (by decide),if_pos rfl]
  have HP:=zd (zcv ps lB kB oB mB iB w W2 s hw2 HPar);generalize qk ps fc (.mk 3 num o s xs)=ans at *;clear HPar HFun HExpr HEach hsl hx hxs hcf hk7 hSz hS hwe hbel e1 e2;generalize xV ps s=r at *;go_enter Tryz.func195,Tryz.ntmps195;go_wp2_with (first|(rw[HWe.out]; clear HWe)|fail);refine HP.out.mono ?_;rintro e w3 ⟨rfl,hb3⟩;have HB3:=zd (HBel.out.trans (hb3.mono HBel.out.size));clear hb3;go_wp2_with fail;go_ret2;exact⟨by rw[HE.out]; rfl,HB3.out⟩
 by_cases e4:k=4
 ·subst e4
  have HP:=zd (zgX ps fc lB kB oB mB iB w W2 hw2 HFun num o s xs _ ⟨xa,xc,rfl⟩ HEach.out);unfold jk at HP;clear HPar HFun HExpr HEach hsl hx hxs hcf hk7 hSz hS hwe hbel e1 e2 e3;generalize qk ps fc (.mk 4 num o s xs)=ans at *;go_enter Tryz.func195,Tryz.ntmps195;go_wp2_with (first|(rw[HWe.out]; clear HWe)|fail);refine HP.out.mono ?_;rintro e w3 ⟨rfl,hb3⟩;have HB3:=zd (HBel.out.trans (hb3.mono HBel.out.size));clear hb3;go_wp2_with fail;go_ret2;exact⟨rfl,HB3.out⟩
 have hk5:k=5\/k=6\/k=7:=by
  simp[qj] at hk7;omega
 have HE:Hid (qk ps fc (.mk k num o s xs)=jZ k jz (vL ps fc xs)):=by show _=_; rw[qk,if_neg e1,if_neg e2,if_neg e3,if_neg e4]
 have HEnd:Hid (jZ k jz (vL ps fc xs)=if yb ps fc xs=0 then xf k jz (yy ps fc xs) else xq (yb ps fc xs)):=JV;have HEv:=zd (HEach.out W2 hw2);have HMade:Hid (∀W v,ze (fun b=>b<W.heap.size) (zG W) 1 (yy ps fc xs) v->Calls Tryz.prog 276 #[.int .i64 k,v] W fun e w'=>(∃t ok,e=.returned (.tuple #[.string t,.bool ok])/\xf k jz (yy ps fc xs)=vX t ok)/\Below W.heap.size W w'):=fun W v hv=>
  zgT _ k _ v W (fun _ h=>h) hv hk5 (by rw[show (yy ps fc xs).length=xs.length from List.length_map ..]; exact hcf) (fun t ht=>by
   obtain⟨z,_,rfl⟩:=List.mem_map.1 ht;exact hSz z)
 have k1:(k==1)=false:=by simp; omega
 have k2:(k==2)=false:=by simp; omega
 have k3:(k==3)=false:=by simp; omega
 have k4:(k==4)=false:=by simp; omega
 unfold zd5 at HEv;clear HPar HFun HExpr HEach hsl hx hxs hcf hk7 hSz hS hwe hbel e1 e2 e3 e4 hk5;generalize qk ps fc (.mk k num o s xs)=ans at *;generalize yb ps fc xs=ee at *;generalize yy ps fc xs=is at *;go_enter Tryz.func195,Tryz.ntmps195;go_wp2_with (first|(rw[HWe.out]; clear HWe)|fail);refine HEv.out.mono ?_;rintro e w3 ⟨ra,rn,rc,rfl,hrow,hb3⟩;have f0:=(hb3.cell (p:=⟨W.heap.size+1,0,none⟩) l1).trans x0;have HB3:=zd (HBel.out.trans (hb3.mono HBel.out.size));have HRow:=zd hrow;clear hb3 hrow HEv x0 x1 x2 x3 x4 n0 n1
 by_cases hee:ee=0
 ·subst hee
  have HM:=zd (HMade.out w3 _ (HRow.out rfl));have HA:Hid (ans=xf k jz is):=by show _=_; rw[HE.out,HEnd.out,if_pos rfl]
  clear HRow HEnd HE HMade;go_wp2_with fail;refine HM.out.mono ?_;rintro e w4 ⟨⟨t,ok,rfl,hf⟩,hb4⟩;have HF:Hid (ans=vX t ok):=HA.out.trans hf;have HB4:=zd (HB3.out.trans (hb4.mono HB3.out.size));clear hf hb4 HA;go_wp2_with fail;refine (VM t ok _).mono ?_;rintro e w5 ⟨rfl,rfl⟩;go_wp2_with fail;go_ret2;exact⟨by rw[HF.out]; rfl,HB4.out⟩
 ·have HA:Hid (ans=xq ee):=by show _=_; rw[HE.out,HEnd.out,if_neg hee]
  have hee':(ee != 0)=true:=by simp[hee]
  clear HRow HEnd HE HMade hee;go_wp2_with fail;go_ret2;exact⟨by rw[HA.out]; rfl,HB3.out⟩
theorem zbR (S:Nat->Prop) (ps:List Kn) (fc:ByteArray->Fc) (lB kB oB mB iB:Nat) (w:World) (hS:∀b,S b->b<w.heap.size)
  (HPar:∀W s,Below w.heap.size w W->Calls Tryz.prog 267 #[.string s,.pointer (some ⟨lB,0,none⟩),.pointer (some ⟨kB,0,none⟩)] W fun e w'=>e=.returned (.tuple #[.string (xV ps s).1,.bool ((xV ps s).2==0)])/\Below W.heap.size W w')
  (HFun:∀W o s,Below w.heap.size w W->Calls Tryz.prog 269 #[.string o,.string s,.pointer (some ⟨oB,0,none⟩),.pointer (some ⟨mB,0,none⟩),.pointer (some ⟨iB,0,none⟩)] W fun e w'=>∃a n cap,e=.returned (.tuple #[.agg #[.string (zJ (fc o) s).name,.slice a n cap,.string (zJ (fc o) s).result],.bool (yx (fc o) s==0)])/\qB (fun b=>b<w'.heap.size) w' (zJ (fc o) s) (.agg #[.string (zJ (fc o) s).name,.slice a n cap,.string (zJ (fc o) s).result])/\Below W.heap.size W w')
  (hSz:∀x,(qk ps fc x).1.size<=281474976710656):∀(n d:Nat) (_:10<d+n) (x:Ex) (v:Value) (W:World),Below w.heap.size w W->zx x d=0->yC S w x v->Calls Tryz.prog 195 #[.agg #[.func (.func 267) #[] #[.pointer (some ⟨lB,0,none⟩),.pointer (some ⟨kB,0,none⟩)],.func (.func 269) #[] #[.pointer (some ⟨oB,0,none⟩),.pointer (some ⟨mB,0,none⟩),.pointer (some ⟨iB,0,none⟩)]],v] W (jk ps fc x W)
 |0,d,hd,x,v,W,_,hx,_=>by
  obtain⟨k,n,o,s,xs⟩:=x;have:=(zbO hx).1;omega
 |n+1,d,hd,x,v,W,hW,hx,hv=>
  zfA S ps fc lB kB oB mB iB w W hS hW d HPar HFun (fun x v W hW hx hv=>zbR S ps fc lB kB oB mB iB w hS HPar HFun hSz n (d+1) (by omega) x v W hW hx hv) x v hx hv hSz
end Go.Proofs.YtedpiamfpbdhoaaGreatDoor
