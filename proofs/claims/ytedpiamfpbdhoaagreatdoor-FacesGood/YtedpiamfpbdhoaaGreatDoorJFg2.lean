import Derived.Test.YtedpiamfpbdhoaaGreatDoorJFg1
set_option maxHeartbeats 40000000
set_option maxRecDepth 100000
namespace Go.Proofs.YtedpiamfpbdhoaaGreatDoor
open Go.RowKit
def zm (n:Nat) (w:World) (b:Nat):Prop:=n<=b/\b<w.heap.size
def zQ (R:Int->World->Prop) (e:Ending) (w:World):Prop:=∃x,e=.returned (.int .i64 x)/\R x w
theorem xH {B n:Nat} {w w':World} (hB:B<n) (h:Moved B w w'):Keeps (zm n w) (zm n w') w w':=
 ⟨fun b hb=>h.above b (Nat.lt_of_lt_of_le hB hb.1) hb.2,fun _ hb=>⟨hb.1,Nat.lt_of_lt_of_le hb.2 h.below.size⟩⟩
theorem yo {α:Type} {S:Nat->Prop} {P:α->Nat->Nat->Prop} {c:Nat}:ze S P c [] (.slice none 0 0):=⟨none,0,rfl,⟨by simp,by simp⟩,Or.inl rfl⟩
theorem yi:zL.size<=maxLen:=by show 0<=maxLen; exact Nat.zero_le _
theorem YA {s:ByteArray} (h:zD s=true):s.size<=maxLen:=by
 unfold maxLen;unfold zD at h
 cases hn:qv s with
 |true=>
  have:s.data.toList=[]:=by simpa [qv] using hn
  have e:s.size=s.data.toList.length:=rfl;rw[this] at e;have e':s.size=0:=e;omega
 |false=>
  rw[hn] at h;have hi:zf s=true:=by simpa using h
  have h1:qj s.size 1 8=true:=by
   cases e:qj s.size 1 8 with
   |true=>rfl
   |false=>rw[zf,vG,e] at hi; cases hi
  simp[qj] at h1;omega
theorem ZL {s:ByteArray} (h:zf s=true):s.size<=maxLen:=YA (by unfold zD; rw[h]; simp)
theorem zfW (B:Nat) (l:zB) (j n:Nat) (t:Ty) (k:Int) (f na:ByteArray) (va:Value) (W:World) (g:Nat) (lb:Array Value) (br bk:Nat) (eg:∀args w,(callFunc g args).run Tryz.prog w=.ok (.enter g args) w) (R:Int->World->Prop)
  (hr:zv B l j W) (hBn:B<n) (hbr:W.cell? ⟨br,0,none⟩=some (.pointer (some ⟨B,0,none⟩))) (hbk:W.cell? ⟨bk,0,none⟩=some (.func (.func g) #[] lb)) (hbrB:B<br) (hbkB:B<bk) (hnW:n<=W.heap.size) (ht:xJ (zm n W) W t k f na va)
  (hbad:sgn l j [93]=false->∀w',Moved B W w'->R 4 w')
  (hok:sgn l j [93]=true->∀w' v,Moved B W w'->zv B l (j+1) w'->vi (zm n w') w' (.mk 3 zL zL [t]) v->Calls Tryz.prog g (#[v]++lb) w' (zQ R)) :
  Calls Tryz.prog 239 #[.agg #[.int .i64 k,.string f,.string na,va],.pointer (some ⟨br,0,none⟩),.pointer (some ⟨bk,0,none⟩)] W (zQ R):=by
 obtain⟨va1,va2,va3,rfl⟩:=ht.slice;have hlt:=xC hr;have hbrW:=World.block_lt_of_cell? W _ hbr;have hbkW:=World.block_lt_of_cell? W _ hbk;have HA:Hid (Moved B W (W.alloc (.cells #[.int .i64 k,.string f,.string na,.slice va1 va2 va3] 67))):=Moved.of_below ((Below.refl _ _).alloc (Nat.le_refl _) _) (by omega);have HR:=zd (zS hr ((Below.refl _ _).alloc (Nat.le_refl _) (.cells #[.int .i64 k,.string f,.string na,.slice va1 va2 va3] 67)));have hne1:br<W.heap.size:=hbrW;have HBad:=zd hbad;have HOk:=zd hok;have HT:=zd ht;clear hbad hok ht hr;go_enter Tryz.func239,Tryz.ntmps239;go_wp2_with fail;refine (qh B l j ⟨#[93]⟩ _ HR.out).mono ?_;rintro e w1 ⟨rfl,q1,q2⟩;have hm1:=HA.out.trans q2;have b0:w1.cell? ⟨W.heap.size,0,none⟩=some (.int .i64 k):=(q2.cell (by omega) (by simp) 0).trans (World.cell?_alloc_at _ _ _ _ rfl);have b1:w1.cell? ⟨W.heap.size,1,none⟩=some (.string f):=(q2.cell (by omega) (by simp) 1).trans (World.cell?_alloc_at _ _ _ _ rfl);have b2:w1.cell? ⟨W.heap.size,2,none⟩=some (.string na):=(q2.cell (by omega) (by simp) 2).trans (World.cell?_alloc_at _ _ _ _ rfl);have b3:w1.cell? ⟨W.heap.size,3,none⟩=some (.slice va1 va2 va3):=(q2.cell (by omega) (by simp) 3).trans (World.cell?_alloc_at _ _ _ _ rfl);have hk1:w1.cell? ⟨bk,0,none⟩=some (.func (.func g) #[] lb):=(hm1.cell hbkB hbkW 0).trans hbk;have HM1:=zd hm1;have hs1:=q2.below.size
 cases hs:sgn l j [93]
 ·have hs':sgn l j (ByteArray.mk #[93]).data.toList=false:=hs
  have HB:=zd (HBad.out hs w1 HM1.out)
  try rw[hs']
  clear q1 q2 hm1;go_wp2_with fail;go_ret;exact⟨_,rfl,HB.out⟩
 ·have hs':sgn l j (ByteArray.mk #[93]).data.toList=true:=hs
  rw[hs'] at q1;have q1':zv B l (j+1) w1:=q1;have hW1:W.heap.size+1<=w1.heap.size:=by simpa using hs1
  have hal:Below w1.heap.size w1 (w1.alloc (.cells #[.int .i64 k,.string f,.string na,.slice va1 va2 va3] 67)):=(Below.refl _ _).alloc (Nat.le_refl _) _;have hm2:Moved B W (w1.alloc (.cells #[.int .i64 k,.string f,.string na,.slice va1 va2 va3] 67)):=hm1.trans (Moved.of_below hal (by omega));have hty:vi (zm n (w1.alloc (.cells #[.int .i64 k,.string f,.string na,.slice va1 va2 va3] 67))) (w1.alloc (.cells #[.int .i64 k,.string f,.string na,.slice va1 va2 va3] 67)) (.mk 3 zL zL [t]) (.agg #[.int .i64 3,.string ⟨#[]⟩,.string ⟨#[]⟩,.slice (some ⟨w1.heap.size,0,none⟩) 1 1]):=by
   refine⟨3,_,_,_,rfl,[t],rfl,yi,yi,some ⟨w1.heap.size,0,none⟩,1,rfl,⟨by simp[maxLen],by simp⟩,Or.inr ⟨w1.heap.size,0,rfl,⟨by omega,by simp⟩,?_,trivial⟩⟩;exact qL.2 ⟨k,f,na,_,World.cell?_alloc_at _ _ _ _ rfl,World.cell?_alloc_at _ _ _ _ rfl,World.cell?_alloc_at _ _ _ _ rfl,World.cell?_alloc_at _ _ _ _ rfl,HT.out.keep (xH hBn hm2)⟩
  have cK:=HOk.out hs _ _ hm2 (zS q1' hal) hty;have HK:=zd cK
  try rw[hs']
  clear q1 q2 hm1 hm2 hty cK q1' hal HOk HBad HT;have hef:=eg;go_wp2_with fail;refine HK.out.mono ?_;rintro e w' ⟨y,rfl,hy⟩;have HY:=zd hy;clear hy;go_wp2_with fail;go_ret;exact⟨_,rfl,HY.out⟩
theorem J2 {S:Nat->Prop} {w:World} (k:Int) {o n:ByteArray} (ho:o.size<=maxLen) (hn:n.size<=maxLen):vi S w (.mk k o n []) (.agg #[.int .i64 k,.string o,.string n,.slice none 0 0]):=⟨k,o,n,_,rfl,[],rfl,ho,hn,yo⟩
theorem zaU:∀(f d:Nat),d+f=41->∀(B:Nat) (l:zB) (i:Nat) (w:World) (g:Nat) (lb:Array Value),(∀args w,(callFunc g args).run Tryz.prog w=.ok (.enter g args) w)->∀(R:Int->World->Prop),zv B l i w->
  (∀e,pTy l f i=.bad e->∀w',Moved B w w'->R e w')->
  (∀t j,pTy l f i=.ok t j->∀w' v,Moved B w w'->zv B l j w'->vi (zm w.heap.size w') w' t v->Calls Tryz.prog g (#[v]++lb) w' (zQ R))->
  Calls Tryz.prog 166 #[.pointer (some ⟨B,0,none⟩),.int .i64 d,.func (.func g) #[] lb] w (zQ R):=by
 intro f
 induction f with
 |zero=>
  intro d hd B l i w g lb eg R hr hbad hok;have hd':(40:Int)<(d:Int):=by omega
  have hlt:=xC hr;have HB:=zd (hbad 1 (by rw[pTy]) ((w.alloc (.cells #[.pointer (some ⟨B,0,none⟩)] 160)).alloc (.cells #[.func (.func g) #[] lb] 224)) ((Moved.of_below ((Below.refl _ _).alloc (Nat.le_refl _) _) (by omega)).alloc (by simp; omega) _));clear hbad hok eg hr;go_enter Tryz.func166,Tryz.ntmps166;go_wp2_with fail;go_ret;exact⟨_,rfl,HB.out⟩
 |succ f ih=>
  intro d hd B l i w g lb eg R hr hbad hok;have HIH:=zd ih;have HEg:=zd eg;have hd':¬(40:Int)<(d:Int):=by omega
  have hlt:=xC hr;have hal:Below w.heap.size w ((w.alloc (.cells #[.pointer (some ⟨B,0,none⟩)] 160)).alloc (.cells #[.func (.func g) #[] lb] 224)):=((Below.refl _ _).alloc (Nat.le_refl _) _).alloc (by simp) _;have HM0:Hid (Moved B w ((w.alloc (.cells #[.pointer (some ⟨B,0,none⟩)] 160)).alloc (.cells #[.func (.func g) #[] lb] 224))):=Moved.of_below hal (by omega);have HR0:=zd (zS hr hal);have hcr:((w.alloc (.cells #[.pointer (some ⟨B,0,none⟩)] 160)).alloc (.cells #[.func (.func g) #[] lb] 224)).cell? ⟨w.heap.size,0,none⟩=some (.pointer (some ⟨B,0,none⟩)):=(World.cell?_alloc_old _ _ _ (by simp)).trans (World.cell?_alloc_at _ _ _ _ rfl);have hck:((w.alloc (.cells #[.pointer (some ⟨B,0,none⟩)] 160)).alloc (.cells #[.func (.func g) #[] lb] 224)).cell? ⟨w.heap.size+1,0,none⟩=some (.func (.func g) #[] lb):=World.cell?_alloc_at _ _ _ _ (by simp);have HCr:=zd hcr;have HCk:=zd hck;have HP:Hid (pTy l (f+1) i=if wrd l i [105,110,116]=true then .ok (.mk 1 zL zL []) (i+1)
   else if wrd l i [116,101,120,116]=true then .ok (.mk 2 zL zL []) (i+1)
   else if sgn l i [91]=true then (match pTy l f (i+1) with
    |.bad e=>.bad e
    |.ok t j=>if sgn l j [93]=true then .ok (.mk 3 zL zL [t]) (j+1) else .bad 4)
   else match ym l i with
    |.bad e=>.bad e
    |.ok x j=>.ok (.mk 4 x.1 x.2 []) j):=by show _=_; rw[pTy]; rfl
  have HBad:=zd hbad;have HOk:=zd hok;have hef:=z8;clear hbad hok hr ih hal hcr hck eg;have hkeep:∀W,Moved B w W->(Moved B ((w.alloc (.cells #[.pointer (some ⟨B,0,none⟩)] 160)).alloc (.cells #[.func (.func g) #[] lb] 224)) W)->W.cell? ⟨w.heap.size,0,none⟩=some (.pointer (some ⟨B,0,none⟩))/\W.cell? ⟨w.heap.size+1,0,none⟩=some (.func (.func g) #[] lb):=fun W _ h2=>
   ⟨(h2.cell (by omega) (by simp; omega) 0).trans HCr.out,(h2.cell (by omega) (by simp) 0).trans HCk.out⟩
  have HKeep:=zd hkeep;clear hkeep;go_enter Tryz.func166,Tryz.ntmps166;go_wp2_with fail;refine (Qf B l i ⟨#[105,110,116]⟩ _ HR0.out).mono ?_;rintro e w1 ⟨rfl,q1,q2⟩;have HN1:=zd q2;have HM1:=zd (HM0.out.trans q2);obtain⟨k1,k2⟩:=HKeep.out w1 HM1.out HN1.out;have hsz1:w.heap.size+2<=w1.heap.size:=by have:=q2.below.size; simpa using this
  cases hw1:wrd l i [105,110,116]
  case true=>
   have hw1':wrd l i (ByteArray.mk #[105,110,116]).data.toList=true:=hw1;rw[hw1'] at q1;rw[if_pos hw1] at HP;have HK:=zd (HOk.out _ _ HP.out w1 _ HM1.out q1 (J2 1 yi yi));have eg:=HEg.out
   try rw[hw1']
   clear q1 q2 HBad HOk;go_wp2_with fail;refine HK.out.mono ?_;rintro e w' ⟨y,rfl,hy⟩;have HY:=zd hy;clear hy;go_wp2_with fail;go_ret;exact⟨_,rfl,HY.out⟩
  have hw1':wrd l i (ByteArray.mk #[105,110,116]).data.toList=false:=hw1;rw[hw1'] at q1;rw[if_neg (by rw[hw1]; simp)] at HP;have HR1:Hid (zv B l i w1):=q1
  try rw[hw1']
  clear q1 q2;go_wp2_with fail;refine (Qf B l i ⟨#[116,101,120,116]⟩ _ HR1.out).mono ?_;rintro e w2 ⟨rfl,q1,q2⟩;have HN2:=zd (HN1.out.trans q2);have HM2:=zd (HM1.out.trans q2);obtain⟨k3,k4⟩:=HKeep.out w2 HM2.out HN2.out;have hsz2:w.heap.size+2<=w2.heap.size:=by have:=q2.below.size; omega
  cases hw2:wrd l i [116,101,120,116]
  case true=>
   have hw2':wrd l i (ByteArray.mk #[116,101,120,116]).data.toList=true:=hw2;rw[hw2'] at q1;rw[if_pos hw2] at HP;have HK:=zd (HOk.out _ _ HP.out w2 _ HM2.out q1 (J2 2 yi yi));have eg:=HEg.out
   try rw[hw2']
   clear q1 q2 HBad HOk;go_wp2_with fail;refine HK.out.mono ?_;rintro e w' ⟨y,rfl,hy⟩;have HY:=zd hy;clear hy;go_wp2_with fail;go_ret;exact⟨_,rfl,HY.out⟩
  have hw2':wrd l i (ByteArray.mk #[116,101,120,116]).data.toList=false:=hw2;rw[hw2'] at q1;rw[if_neg (by rw[hw2]; simp)] at HP;have HR2:Hid (zv B l i w2):=q1
  try rw[hw2']
  clear q1 q2 k1 k2;go_wp2_with fail;refine (qh B l i ⟨#[91]⟩ _ HR2.out).mono ?_;rintro e w3 ⟨rfl,q1,q2⟩;have HN3:=zd (HN2.out.trans q2);have HM3:=zd (HM2.out.trans q2);obtain⟨k5,k6⟩:=HKeep.out w3 HM3.out HN3.out;have hsz3:w.heap.size+2<=w3.heap.size:=by have:=q2.below.size; omega
  cases hw3:sgn l i [91]
  case true=>
   have hw3':sgn l i (ByteArray.mk #[91]).data.toList=true:=hw3;rw[hw3'] at q1;rw[if_pos hw3] at HP;have HR3:Hid (zv B l (i+1) w3):=q1;have en:((d+1:Nat):Int)=(d:Int)+1:=by omega
   have cI:=HIH.out (d+1) (by omega) B l (i+1) w3 239 #[.pointer (some ⟨w.heap.size,0,none⟩),.pointer (some ⟨w.heap.size+1,0,none⟩)] (enters_of Tryz.func239 (by kernel_rfl) rfl) R HR3.out
    (fun e he w' hm=>HBad.out e (by rw[HP.out,he]) w' (HM3.out.trans hm))
    (fun t j hp w' v hm hr' ht=>by
     obtain⟨k',f',n',va',rfl,hcs⟩:=ht;obtain⟨kk5,kk6⟩:=HKeep.out w' (HM3.out.trans hm) (HN3.out.trans hm);have hsz':=hm.below.size;refine zfW B l j w.heap.size t k' f' n' va' w' g lb w.heap.size (w.heap.size+1) HEg.out R hr' (by omega) kk5 kk6 (by omega) (by omega) (by omega) ?_ ?_ ?_
     ·exact hcs.keep ⟨fun _ _=>rfl,fun b hb=>⟨by have:=hb.1; omega,hb.2⟩⟩
     ·intro hs w'' hm'
      exact HBad.out 4 (by rw[HP.out,hp]; simp[hs]) w'' ((HM3.out.trans hm).trans hm')
     ·intro hs w'' v hm' hr'' ht''
      exact HOk.out _ _ (by rw[HP.out,hp]; simp[hs]) w'' v ((HM3.out.trans hm).trans hm') hr'' ht'')
   rw[en] at cI;have HCI:=zd cI
   try rw[hw3']
   clear q1 q2 HBad HOk cI;go_wp2_with fail;refine HCI.out.mono ?_;rintro e w' ⟨y,rfl,hy⟩;have HY:=zd hy;clear hy;go_wp2_with fail;go_ret;exact⟨_,rfl,HY.out⟩
  have hw3':sgn l i (ByteArray.mk #[91]).data.toList=false:=hw3;rw[hw3'] at q1;rw[if_neg (by rw[hw3]; simp)] at HP;have HR3:Hid (zv B l i w3):=q1
  try rw[hw3']
  clear q1 q2 k3 k4;go_wp2_with fail;refine (Kw B l i _ HR3.out).mono ?_;rintro e w4 ⟨hm,⟨hn,o,t,rfl⟩|⟨o,t,j,hn,ho,ht,rfl,hr⟩⟩
  ·rw[hn] at HP
   have HB:=zd (HBad.out _ HP.out w4 (HM3.out.trans hm));clear hm hn HBad HOk;go_wp2_with fail;go_ret;exact⟨_,rfl,HB.out⟩
  ·rw[hn] at HP
   obtain⟨k7,k8⟩:=HKeep.out w4 (HM3.out.trans hm) (HN3.out.trans hm);have HK:=zd (HOk.out _ _ HP.out w4 _ (HM3.out.trans hm) hr (J2 4 (YA ho) (ZL ht)));have eg:=HEg.out;clear hm hn HBad HOk hr;go_wp2_with fail;refine HK.out.mono ?_;rintro e w' ⟨y,rfl,hy⟩;have HY:=zd hy;clear hy;go_wp2_with fail;go_ret;exact⟨_,rfl,HY.out⟩
theorem Jn {l:zB} {i j:Nat} {x:ByteArray×ByteArray} (h:ym l i=.ok x j):i<=j:=by
 unfold ym at h
 split at h
 ·cases h
 ·split at h
  ·split at h
   ·cases h
   ·injection h with _ h; omega
  ·injection h with _ h; omega
theorem YB {α:Type} {sub:Nat->Res α} {l:zB} {fin:List UInt8} (hs:∀i x j,sub i=.ok x j->i<=j):∀(n:Nat) (acc:List α) (i j:Nat) (r:List α),qZ sub l fin n acc i=.ok r j->i<=j
 |0,_,_,_,_,h=>by rw[qZ] at h; cases h
 |n+1,acc,i,j,r,h=>by
  rw[qZ] at h
  split at h
  ·cases h
  ·rename_i x k hk
   have:=hs i x k hk
   split at h
   ·have:=YB hs n _ _ _ _ h
    omega
   ·split at h
    ·injection h with _ h; omega
    ·cases h
theorem zeg {sub:Nat->Res Ex} {l:zB} (hs:∀i x j,sub i=.ok x j->i<=j) {i j:Nat} {x:Ex} (h:ZZ sub l i=.ok x j):i<=j:=by
 unfold ZZ at h
 split at h
 ·cases h
 ·rename_i y k hk
  have:=Jn hk
  split at h
  ·split at h
   ·injection h with _ h; omega
   ·split at h
    ·cases h
    ·rename_i hl
     have:=YB hs _ _ _ _ _ hl;injection h with _ h; omega
  ·split at h
   ·injection h with _ h; omega
   ·cases h
theorem zeh {sub:Nat->Res Ex} {l:zB} (hs:∀i x j,sub i=.ok x j->i<=j) {i j:Nat} {x:Ex} (h:Qy sub l i=.ok x j):i<=j:=by
 unfold Qy at h
 split at h
 ·split at h
  ·cases h
  ·rename_i hk
   have:=hs _ _ _ hk
   split at h
   ·injection h with _ h; omega
   ·cases h
 ·split at h
  ·split at h
   ·cases h
   ·rename_i hl
    have:=YB hs _ _ _ _ _ hl;injection h with _ h; omega
  ·split at h
   ·injection h with _ h; omega
   ·split at h
    ·injection h with _ h; omega
    ·exact zeg hs h
theorem Vy {sub:Nat->Res Ex} {l:zB} (hs:∀i x j,sub i=.ok x j->i<=j):∀(n:Nat) (x y:Ex) (i j:Nat),vP sub l n x i=.ok y j->i<=j
 |0,_,_,_,_,h=>by rw[vP] at h; cases h
 |n+1,x,y,i,j,h=>by
  rw[vP] at h
  split at h
  ·split at h
   ·cases h
   ·rename_i hk
    have:=hs _ _ _ hk
    split at h
    ·have:=Vy hs n _ _ _ _ h
     omega
    ·cases h
  ·injection h with _ h; omega
theorem YC {sub:Nat->Res Ex} {l:zB} (hs:∀i x j,sub i=.ok x j->i<=j) {i j:Nat} {x:Ex} (h:kR sub l i=.ok x j):i<=j:=by
 unfold kR at h
 split at h
 ·cases h
 ·rename_i hk
  have:=zeh hs hk;have:=Vy hs _ _ _ _ _ h;omega
theorem Kx {sub:Nat->Res Ex} {l:zB} (hs:∀i x j,sub i=.ok x j->i<=j):∀(n:Nat) (x y:Ex) (i j:Nat),kj sub l n x i=.ok y j->i<=j
 |0,_,_,_,_,h=>by rw[kj] at h; cases h
 |n+1,x,y,i,j,h=>by
  rw[kj] at h
  split at h
  ·split at h
   ·cases h
   ·rename_i hk
    have:=YC hs hk;have:=Kx hs n _ _ _ _ h;omega
  ·injection h with _ h; omega
theorem XC {l:zB}:∀(f i:Nat) (x:Ex) (j:Nat),pEx l f i=.ok x j->i<=j
 |0,_,_,_,h=>by rw[pEx] at h; cases h
 |f+1,i,x,j,h=>by
  rw[pEx] at h
  split at h
  ·cases h
  ·rename_i hk
   have:=YC (fun i x j=>XC f i x j) hk;have:=Kx (fun i x j=>XC f i x j) _ _ _ _ _ h;omega
theorem YD {l:zB} {i:Nat} {s:List UInt8} (h:sgn l i s=true):i<l.length:=by
 unfold sgn QL at h
 split at h
 ·rename_i hk
  exact (List.getElem?_eq_some_iff.1 hk).1
 ·cases h
def jd (f d:Nat):Prop:=∀(B:Nat) (l:zB) (i:Nat) (w:World) (g:Nat) (lb:Array Value),(∀args w,(callFunc g args).run Tryz.prog w=.ok (.enter g args) w)->∀(R:Int->World->Prop),zv B l i w->
  (∀e,pEx l f i=.bad e->∀w',Moved B w w'->R e w')->
  (∀x j,pEx l f i=.ok x j->∀w' v,Moved B w w'->zv B l j w'->yC (zm w.heap.size w') w' x v->Calls Tryz.prog g (#[v]++lb) w' (zQ R))->
  Calls Tryz.prog 172 #[.pointer (some ⟨B,0,none⟩),.int .i64 d,.func (.func g) #[] lb] w (zQ R)
theorem ZM {n n':Nat} {w:World} {x:Ex} {v:Value} (hn:n<=n') (h:yC (zm n' w) w x v):yC (zm n w) w x v:=h.keep ⟨fun _ _=>rfl,fun _ hb=>⟨Nat.le_trans hn hb.1,hb.2⟩⟩
theorem zei {n:Nat} {W:World} {x y:Ex} {k1 n1 k2 n2:Int} {f1 s1 f2 s2:ByteArray} {v1 v2:Value} (hn:n<=W.heap.size)
  (hx:xP (zm n (W.alloc (.cells #[.int .i64 k1,.int .i64 n1,.string f1,.string s1,v1,.int .i64 k2,.int .i64 n2,.string f2,.string s2,v2] 70))) (W.alloc (.cells #[.int .i64 k1,.int .i64 n1,.string f1,.string s1,v1,.int .i64 k2,.int .i64 n2,.string f2,.string s2,v2] 70)) x k1 n1 f1 s1 v1)
  (hy:xP (zm n (W.alloc (.cells #[.int .i64 k1,.int .i64 n1,.string f1,.string s1,v1,.int .i64 k2,.int .i64 n2,.string f2,.string s2,v2] 70))) (W.alloc (.cells #[.int .i64 k1,.int .i64 n1,.string f1,.string s1,v1,.int .i64 k2,.int .i64 n2,.string f2,.string s2,v2] 70)) y k2 n2 f2 s2 v2) (k:Int) :
  yC (zm n (W.alloc (.cells #[.int .i64 k1,.int .i64 n1,.string f1,.string s1,v1,.int .i64 k2,.int .i64 n2,.string f2,.string s2,v2] 70))) (W.alloc (.cells #[.int .i64 k1,.int .i64 n1,.string f1,.string s1,v1,.int .i64 k2,.int .i64 n2,.string f2,.string s2,v2] 70)) (.mk k 0 zL zL [x,y])
   (.agg #[.int .i64 k,.int .i64 0,.string ⟨#[]⟩,.string ⟨#[]⟩,.slice (some ⟨W.heap.size,0,none⟩) 2 2]):=by
 refine⟨k,0,_,_,_,rfl,[x,y],rfl,yi,yi,some ⟨W.heap.size,0,none⟩,2,rfl,⟨by simp[maxLen],by simp⟩,Or.inr ⟨W.heap.size,0,rfl,⟨hn,by simp⟩,?_,?_,trivial⟩⟩
 ·exact qU.2 ⟨k1,n1,f1,s1,v1,World.cell?_alloc_at _ _ _ _ rfl,World.cell?_alloc_at _ _ _ _ rfl,World.cell?_alloc_at _ _ _ _ rfl,World.cell?_alloc_at _ _ _ _ rfl,World.cell?_alloc_at _ _ _ _ rfl,hx⟩
 ·exact qU.2 ⟨k2,n2,f2,s2,v2,World.cell?_alloc_at _ _ _ _ rfl,World.cell?_alloc_at _ _ _ _ rfl,World.cell?_alloc_at _ _ _ _ rfl,World.cell?_alloc_at _ _ _ _ rfl,World.cell?_alloc_at _ _ _ _ rfl,hy⟩
structure Boxes (B d g:Nat) (lb:Array Value) (me br bk bd bp:Nat) (W:World):Prop where
 r:W.cell? ⟨br,0,none⟩=some (.pointer (some ⟨B,0,none⟩))
 k:W.cell? ⟨bk,0,none⟩=some (.func (.func g) #[] lb)
 d:W.cell? ⟨bd,0,none⟩=some (.int .i64 d)
 p:W.cell? ⟨bp,0,none⟩=some (.func (.func me) #[] #[.pointer (some ⟨br,0,none⟩),.pointer (some ⟨bk,0,none⟩),.pointer (some ⟨bd,0,none⟩),.pointer (some ⟨bp,0,none⟩)])
 hr:B<br
 hk:B<bk
 hd:B<bd
 hp:B<bp
theorem Boxes.keep {B d g:Nat} {lb:Array Value} {me br bk bd bp:Nat} {W W':World} (h:Boxes B d g lb me br bk bd bp W) (hm:Moved B W W'):Boxes B d g lb me br bk bd bp W':=
 ⟨(hm.cell h.hr (World.block_lt_of_cell? W _ h.r) 0).trans h.r,(hm.cell h.hk (World.block_lt_of_cell? W _ h.k) 0).trans h.k,(hm.cell h.hd (World.block_lt_of_cell? W _ h.d) 0).trans h.d,(hm.cell h.hp (World.block_lt_of_cell? W _ h.p) 0).trans h.p,h.hr,h.hk,h.hd,h.hp⟩
theorem zdc (B:Nat) (l:zB) (n0 j br bp bx self:Nat) (caps:Array Value) (es:∀args w,(callFunc self args).run Tryz.prog w=.ok (.enter self args) w) (R:Int->World->Prop) (x p:Ex) (W:World) (k nu ke ne:Int) (fo s fe se:ByteArray) (va1 ve1:Option Addr) (va2 va3 ve2 ve3:Nat)
  (hBn:B<n0) (hnW:n0<=W.heap.size) (hr:zv B l j W) (kr:W.cell? ⟨br,0,none⟩=some (.pointer (some ⟨B,0,none⟩))) (kp:W.cell? ⟨bp,0,none⟩=some (.func (.func self) #[] caps)) (_hbr:B<br) (hbp:B<bp) (hbx:B<bx)
  (b0:W.cell? ⟨bx,0,none⟩=some (.int .i64 k)) (b1:W.cell? ⟨bx,1,none⟩=some (.int .i64 nu)) (b2:W.cell? ⟨bx,2,none⟩=some (.string fo)) (b3:W.cell? ⟨bx,3,none⟩=some (.string s)) (b4:W.cell? ⟨bx,4,none⟩=some (.slice va1 va2 va3))
  (hx:xP (zm n0 W) W x k nu fo s (.slice va1 va2 va3)) (hp:xP (zm n0 W) W p ke ne fe se (.slice ve1 ve2 ve3))
  (hbad:sgn l j [93]=false->∀w',Moved B W w'->R 4 w')
  (hok:sgn l j [93]=true->∀w' v,Moved B W w'->zv B l (j+1) w'->yC (zm n0 w') w' (zc9 x p) v->Calls Tryz.prog self (#[v]++caps) w' (zQ R)) :
  Calls Tryz.prog 289 #[.agg #[.int .i64 ke,.int .i64 ne,.string fe,.string se,.slice ve1 ve2 ve3],.pointer (some ⟨br,0,none⟩),.pointer (some ⟨bp,0,none⟩),.pointer (some ⟨bx,0,none⟩)] W (zQ R):=by
 have hlt:=xC hr;have hbrW:=World.block_lt_of_cell? W _ kr;have hbpW:=World.block_lt_of_cell? W _ kp;have hbxW:bx<W.heap.size:=World.block_lt_of_cell? W _ b0;have hal:Below W.heap.size W (W.alloc (.cells #[.int .i64 ke,.int .i64 ne,.string fe,.string se,.slice ve1 ve2 ve3] 70)):=(Below.refl _ _).alloc (Nat.le_refl _) _;have HM0:Hid (Moved B W (W.alloc (.cells #[.int .i64 ke,.int .i64 ne,.string fe,.string se,.slice ve1 ve2 ve3] 70))):=Moved.of_below hal (by omega);have HR0:=zd (zS hr hal);have HBad:=zd hbad;have HOk:=zd hok;have HX:=zd hx;have HP:=zd hp;have hbrW':br<W.heap.size:=hbrW;clear hbad hok hx hp hr hal;go_enter Tryz.func289,Tryz.ntmps289;go_wp2_with fail;refine (qh B l j ⟨#[93]⟩ _ HR0.out).mono ?_;rintro e w1 ⟨rfl,q1,q2⟩;have hm1:=HM0.out.trans q2;have hsz1:W.heap.size+1<=w1.heap.size:=by have:=q2.below.size; simpa using this
 have p0:w1.cell? ⟨W.heap.size,0,none⟩=some (.int .i64 ke):=(q2.cell (by omega) (by simp) 0).trans (World.cell?_alloc_at _ _ _ _ rfl);have p1:w1.cell? ⟨W.heap.size,1,none⟩=some (.int .i64 ne):=(q2.cell (by omega) (by simp) 1).trans (World.cell?_alloc_at _ _ _ _ rfl);have p2:w1.cell? ⟨W.heap.size,2,none⟩=some (.string fe):=(q2.cell (by omega) (by simp) 2).trans (World.cell?_alloc_at _ _ _ _ rfl);have p3:w1.cell? ⟨W.heap.size,3,none⟩=some (.string se):=(q2.cell (by omega) (by simp) 3).trans (World.cell?_alloc_at _ _ _ _ rfl);have p4:w1.cell? ⟨W.heap.size,4,none⟩=some (.slice ve1 ve2 ve3):=(q2.cell (by omega) (by simp) 4).trans (World.cell?_alloc_at _ _ _ _ rfl);have x0:=(hm1.cell hbx hbxW 0).trans b0;have x1:=(hm1.cell hbx hbxW 1).trans b1;have x2:=(hm1.cell hbx hbxW 2).trans b2;have x3:=(hm1.cell hbx hbxW 3).trans b3;have x4:=(hm1.cell hbx hbxW 4).trans b4;have kp1:=(hm1.cell hbp hbpW 0).trans kp
 cases hs:sgn l j [93]
 ·have hs':sgn l j (ByteArray.mk #[93]).data.toList=false:=hs
  have HB:=zd (HBad.out hs w1 hm1)
  try rw[hs']
  clear q1 q2 hm1 HOk HBad;go_wp2_with fail;go_ret;exact⟨_,rfl,HB.out⟩
 ·have hs':sgn l j (ByteArray.mk #[93]).data.toList=true:=hs
  rw[hs'] at q1;have q1':zv B l (j+1) w1:=q1;have hal:Below w1.heap.size w1 (w1.alloc (.cells #[.int .i64 k,.int .i64 nu,.string fo,.string s,.slice va1 va2 va3,.int .i64 ke,.int .i64 ne,.string fe,.string se,.slice ve1 ve2 ve3] 70)):=(Below.refl _ _).alloc (Nat.le_refl _) _;have hm2:Moved B W (w1.alloc (.cells #[.int .i64 k,.int .i64 nu,.string fo,.string s,.slice va1 va2 va3,.int .i64 ke,.int .i64 ne,.string fe,.string se,.slice ve1 ve2 ve3] 70)):=hm1.trans (Moved.of_below hal (by omega));have HK:=zd (HOk.out hs _ _ hm2 (zS q1' hal) (zei (by omega) (HX.out.keep (xH hBn hm2)) (HP.out.keep (xH hBn hm2)) 7))
  try rw[hs']
  clear q1 q2 hm1 hm2 q1' hal HOk HBad HX HP;go_wp2_with fail;refine HK.out.mono ?_;rintro e w' ⟨y,rfl,hy⟩;have HY:=zd hy;clear hy;go_wp2_with fail;go_ret;exact⟨_,rfl,HY.out⟩
theorem zbW (f d:Nat) (hd1:d<100) (hE:jd f (d+1)) (B:Nat) (l:zB) (n0:Nat) (g:Nat) (lb:Array Value) (eg:∀args w,(callFunc g args).run Tryz.prog w=.ok (.enter g args) w) (R:Int->World->Prop) (br bk bd bp:Nat) (hBn:B<n0) :
  ∀(n i:Nat) (x:Ex) (v:Value) (W:World),l.length - i<n->zv B l i W->yC (zm n0 W) W x v->Boxes B d g lb 288 br bk bd bp W->n0<=W.heap.size->
  (∀e,vP (pEx l f) l n x i=.bad e->∀w',Moved B W w'->R e w')->
  (∀y j,vP (pEx l f) l n x i=.ok y j->∀w' v',Moved B W w'->zv B l j w'->yC (zm n0 w') w' y v'->Calls Tryz.prog g (#[v']++lb) w' (zQ R))->
  Calls Tryz.prog 288 #[v,.pointer (some ⟨br,0,none⟩),.pointer (some ⟨bk,0,none⟩),.pointer (some ⟨bd,0,none⟩),.pointer (some ⟨bp,0,none⟩)] W (zQ R):=by
 intro n
 induction n with
 |zero=>intro i x v W hn; omega
 |succ n ih=>
  intro i x v W hn hr hx hbx hnW hbad hok;obtain⟨k,nu,fo,s,va,rfl,hcs⟩:=hx;obtain⟨va1,va2,va3,rfl⟩:=hcs.slice;have HIH:=zd ih;have HEg:=zd eg;have HE:=zd hE;have HBad:=zd hbad;have HOk:=zd hok;have HC:=zd hcs;have HBx:=zd hbx;have hlt:=xC hr;have hal:Below W.heap.size W (W.alloc (.cells #[.int .i64 k,.int .i64 nu,.string fo,.string s,.slice va1 va2 va3] 70)):=(Below.refl _ _).alloc (Nat.le_refl _) _;have HM0:Hid (Moved B W (W.alloc (.cells #[.int .i64 k,.int .i64 nu,.string fo,.string s,.slice va1 va2 va3] 70))):=Moved.of_below hal (by omega);have HR0:=zd (zS hr hal);have HP:Hid (vP (pEx l f) l (n+1) x i=if sgn l i [91]=true then (match pEx l f (i+1) with
   |.bad e=>.bad e
   |.ok p j=>if sgn l j [93]=true then vP (pEx l f) l n (zc9 x p) (j+1) else .bad 4) else .ok x i):=by show _=_; rw[vP]; rfl
  have hB0:=hbx.keep HM0.out;have c1:=hB0.r;have hef:=z8;have HB0:=zd hB0;clear hbad hok hr ih hal eg hcs hbx hE hB0;go_enter Tryz.func288,Tryz.ntmps288;go_wp2_with fail;refine (qh B l i ⟨#[91]⟩ _ HR0.out).mono ?_;rintro e w1 ⟨rfl,q1,q2⟩;have HN1:=zd q2;have HM1:=zd (HM0.out.trans q2);have hsz1:W.heap.size+1<=w1.heap.size:=by have:=q2.below.size; simpa using this
  have hB1:=HB0.out.keep q2;have e0:w1.cell? ⟨W.heap.size,0,none⟩=some (.int .i64 k):=(q2.cell (by omega) (by simp) 0).trans (World.cell?_alloc_at _ _ _ _ rfl);have e1:w1.cell? ⟨W.heap.size,1,none⟩=some (.int .i64 nu):=(q2.cell (by omega) (by simp) 1).trans (World.cell?_alloc_at _ _ _ _ rfl);have e2:w1.cell? ⟨W.heap.size,2,none⟩=some (.string fo):=(q2.cell (by omega) (by simp) 2).trans (World.cell?_alloc_at _ _ _ _ rfl);have e3:w1.cell? ⟨W.heap.size,3,none⟩=some (.string s):=(q2.cell (by omega) (by simp) 3).trans (World.cell?_alloc_at _ _ _ _ rfl);have e4:w1.cell? ⟨W.heap.size,4,none⟩=some (.slice va1 va2 va3):=(q2.cell (by omega) (by simp) 4).trans (World.cell?_alloc_at _ _ _ _ rfl);have k1:=hB1.r;have k2:=hB1.k;have k3:=hB1.d;have HB1:=zd hB1;clear hB1 c1
  cases hs:sgn l i [91]
  ·have hs':sgn l i (ByteArray.mk #[91]).data.toList=false:=hs
   rw[hs'] at q1;rw[if_neg (by rw[hs]; simp)] at HP;have HK:=zd (HOk.out _ _ HP.out w1 _ HM1.out q1 ⟨_,_,_,_,_,rfl,HC.out.keep (xH hBn HM1.out)⟩);have eg:=HEg.out
   try rw[hs']
   clear q1 q2 HBad HOk;go_wp2_with fail;refine HK.out.mono ?_;rintro e w' ⟨y,rfl,hy⟩;have HY:=zd hy;clear hy;go_wp2_with fail;go_ret;exact⟨_,rfl,HY.out⟩
  ·have hs':sgn l i (ByteArray.mk #[91]).data.toList=true:=hs
   have hil:=YD hs;rw[hs'] at q1;rw[if_pos hs] at HP;have HR1:Hid (zv B l (i+1) w1):=q1;have en:((d+1:Nat):Int)=(d:Int)+1:=by omega
   have cI:=HE.out B l (i+1) w1 289 #[.pointer (some ⟨br,0,none⟩),.pointer (some ⟨bp,0,none⟩),.pointer (some ⟨W.heap.size,0,none⟩)] (enters_of Tryz.func289 (by kernel_rfl) rfl) R HR1.out
    (fun e he w' hm=>HBad.out e (by rw[HP.out,he]) w' (HM1.out.trans hm))
    (fun p j hp W2 v hm hr2 hv=>by
     have hadv:=XC f _ _ _ hp;have hm2:=HM1.out.trans hm;have hB2:=HB1.out.keep hm;have hsz2:=hm.below.size;have b0:=(hm.cell (c:=W.heap.size) (by omega) (by omega) 0).trans e0;have b1:=(hm.cell (c:=W.heap.size) (by omega) (by omega) 1).trans e1;have b2:=(hm.cell (c:=W.heap.size) (by omega) (by omega) 2).trans e2;have b3:=(hm.cell (c:=W.heap.size) (by omega) (by omega) 3).trans e3;have b4:=(hm.cell (c:=W.heap.size) (by omega) (by omega) 4).trans e4;have hv2:=ZM (n:=n0) (by omega) hv;obtain⟨ke,ne,fe,se,ve,rfl,hce⟩:=hv2;obtain⟨ve1,ve2,ve3,rfl⟩:=hce.slice;have hcx:=HC.out.keep (xH hBn hm2);exact zdc B l n0 j br bp W.heap.size 288 #[.pointer (some ⟨br,0,none⟩),.pointer (some ⟨bk,0,none⟩),.pointer (some ⟨bd,0,none⟩),.pointer (some ⟨bp,0,none⟩)] (enters_of Tryz.func288 (by kernel_rfl) rfl) R x p W2 k nu ke ne fo s fe se va1 ve1 va2 va3 ve2 ve3 hBn (by omega) hr2 hB2.r hB2.p hB2.hr hB2.hp (by omega) b0 b1 b2 b3 b4 hcx hce
      (fun hs2 w' hm'=>HBad.out 4 (by rw[HP.out,hp]; simp[hs2]) w' (hm2.trans hm'))
      (fun hs2 w' v' hm' hr' hv'=>HIH.out (j+1) (zc9 x p) v' w' (by have:=YD hs2; omega) hr' hv' (hB2.keep hm') (by have:=hm'.below.size; omega)
       (fun e he w'' hm''=>HBad.out e (by rw[HP.out,hp]; simp[hs2,he]) w'' ((hm2.trans hm').trans hm''))
       (fun y j' hy w'' v'' hm'' hr'' hv''=>HOk.out y j' (by rw[HP.out,hp]; simp[hs2,hy]) w'' v'' ((hm2.trans hm').trans hm'') hr'' hv'')))
   rw[en] at cI;have HCI:=zd cI
   try rw[hs']
   clear q1 q2 HBad HOk cI;go_wp2_with fail;refine HCI.out.mono ?_;rintro e w' ⟨y,rfl,hy⟩;have HY:=zd hy;clear hy;go_wp2_with fail;go_ret;exact⟨_,rfl,HY.out⟩
theorem vQ {W:World} {b:Nat} {o:Obj} (h:W.heap[b]? = some o):b<W.heap.size:=by
 rcases Nat.lt_or_ge b W.heap.size with h'|h'
 ·exact h'
 ·rw[Array.getElem?_eq_none h'] at h; cases h
def vA (base:Nat) (v:Value) (W:World) (b:Nat):Prop:=base<=b/\b<W.heap.size/\v.ownBlock≠some b
structure Kept (B bl base:Nat) (Wb W:World):Prop where
 below:Below B Wb W
 same:∀c,B<c->c<base->c≠bl->W.heap[c]? = Wb.heap[c]?
 room:base<=W.heap.size
theorem Kept.cell {B bl base:Nat} {Wb W:World} (h:Kept B bl base Wb W) {c:Nat} (h1:B<c) (h2:c<base) (h3:c≠bl) (o:Nat):W.cell? ⟨c,o,none⟩=Wb.cell? ⟨c,o,none⟩:=World.cell?_of_block (h.same c h1 h2 h3)
theorem Kept.moved {B bl base:Nat} {Wb W W':World} (h:Kept B bl base Wb W) (hm:Moved B W W'):Kept B bl base Wb W':=
 ⟨h.below.trans hm.below,fun c h1 h2 h3=>(hm.above c h1 (Nat.lt_of_lt_of_le h2 h.room)).trans (h.same c h1 h2 h3),Nat.le_trans h.room hm.below.size⟩
theorem Grew.below {base bl:Nat} {T Tl:TypeId} {v v':Value} {n n':Nat} {ys ys':List Value} {W W':World} {B:Nat} (h:Grew base bl T Tl v v' n' ys' W W') (hown:W.ownsRow base T 5 v n ys) (hB:B<=bl) (hbl:bl<base) (hW:B<=W.heap.size):Below B W W':=
 ⟨h.os,h.tape,h.output,h.size,fun c hc=>h.rest c (by omega) (by omega) (fun e=>by have:=zk hown _ e.symm; omega)⟩
theorem Kept.grew {B bl base:Nat} {T Tl:TypeId} {v v':Value} {n n':Nat} {ys ys':List Value} {Wb W W':World} (h:Kept B bl base Wb W) (hg:Grew base bl T Tl v v' n' ys' W W') (hown:W.ownsRow base T 5 v n ys) (hB:B<bl) (hbl:bl<base):Kept B bl base Wb W':=
 ⟨h.below.trans (hg.below hown (by omega) hbl (by have:=h.room; omega)),fun c h1 h2 h3=>(hg.rest c (by have:=h.room; omega) h3 (fun e=>by have:=zk hown _ e.symm; omega)).trans (h.same c h1 h2 h3),Nat.le_trans h.room hg.size⟩
theorem Kept.toMoved {B bl base:Nat} {w0 Wb W:World} (h:Kept B bl base Wb W) (hm:Moved B w0 Wb) (h1:w0.heap.size<=bl) (h2:bl<base):Moved B w0 W:=
 ⟨hm.below.trans h.below,fun c hc hlt=>(h.same c hc (by omega) (by omega)).trans (hm.above c hc hlt)⟩
theorem zcF {base bl:Nat} {T Tl:TypeId} {v v':Value} {n n':Nat} {ys ys':List Value} {W W':World} {B:Nat} {l:zB} {i:Nat} (hr:zv B l i W) (h:Grew base bl T Tl v v' n' ys' W W') (hown:W.ownsRow base T 5 v n ys) (hB:B<bl) (hbl:bl<base):zv B l i W':=by
 have hlt:=xC hr;have hb:=h.below (B:=B+1) hown (by omega) hbl (by omega);obtain⟨tv,h1,h2,h3⟩:=hr;exact⟨tv,(hb.block B (by omega)).trans h1,h2.keep (hb.mono (by omega)),h3⟩
theorem zej {B base:Nat} {T:TypeId} {c n:Nat} {v:Value} {ys:List Value} {W W':World} (h:W.ownsRow base T c v n ys) (hm:Moved B W W') (hB:B<base):W'.ownsRow base T c v n ys:=by
 refine⟨h.1,h.2.imp_right ?_⟩;rintro ⟨g,cap,cur,rfl,hb,hg,hr⟩;exact⟨g,cap,cur,rfl,hb,(hm.above g (by omega) (vQ hg)).trans hg,hr⟩
theorem zas {w:World} {base size n:Nat} {e:TypeId} {v:Value} {xs:List Value} (h:w.ownsRow base e size v n xs) (hn:0<n):∃g cap,v=.slice (some ⟨g,0,none⟩) n cap:=by
 rcases h.2 with ⟨_,h2⟩|⟨g,cap,_,h1,_⟩
 ·omega
 ·exact⟨g,cap,h1⟩
section
variable {α:Type} (C:(Nat->Prop)->World->α->List Value->Prop) (T Tl:TypeId)
structure ListOf (base bl n1:Nat) (xs:List α) (la:Option Addr) (cap:Nat) (ys:List Value) (W:World):Prop where
 box:W.heap[bl]? = some (.cells #[.slice la xs.length cap] Tl (0,0))
 own:W.ownsRow base T 5 (.slice la xs.length cap) xs.length ys
 old:∀g,(Value.slice la xs.length cap).ownBlock=some g->g<n1
 items:∀j (hj:j<xs.length),∃cs,cs.length=5/\(∀t,t<5->ys[j * 5+t]? = cs[t]?)/\C (vA base (.slice la xs.length cap) W) W xs[j] cs
variable {C T Tl}
theorem ListOf.moved (hC:∀{S S':Nat->Prop} {W W':World} {x:α} {cs:List Value},Keeps S S' W W'->C S W x cs->C S' W' x cs) {B base bl n1:Nat} {xs:List α} {la:Option Addr} {cap:Nat} {ys:List Value} {W W':World}
  (h:ListOf C T Tl base bl n1 xs la cap ys W) (hm:Moved B W W') (hB:B<bl) (hbl:bl<base):ListOf C T Tl base bl n1 xs la cap ys W':=by
 refine⟨(hm.above bl hB (vQ h.box)).trans h.box,zej h.own hm (by omega),h.old,fun j hj=>?_⟩;obtain⟨cs,h1,h2,h3⟩:=h.items j hj;refine⟨cs,h1,h2,hC ⟨fun b hb=>hm.above b (by have:=hb.1; omega) hb.2.1,fun b hb=>⟨hb.1,Nat.lt_of_lt_of_le hb.2.1 hm.below.size,hb.2.2⟩⟩ h3⟩
theorem ListOf.push (hC:∀{S S':Nat->Prop} {W W':World} {x:α} {cs:List Value},Keeps S S' W W'->C S W x cs->C S' W' x cs) {base bl n1:Nat} {xs:List α} {x:α} {la:Option Addr} {cap g cap':Nat} {ys cs:List Value} {W W':World}
  (h:ListOf C T Tl base bl n1 xs la cap ys W) (hbl:bl<base) (hn1:base<=n1) (hcs:cs.length=5) (hx:C (zm n1 W) W x cs)
  (hg:Grew base bl T Tl (.slice la xs.length cap) (.slice (some ⟨g,0,none⟩) (xs.length+1) cap') (xs.length+1) (ys++cs) W W'):ListOf C T Tl base bl W'.heap.size (xs++[x]) (some ⟨g,0,none⟩) cap' (ys++cs) W':=by
 have e:(xs++[x]).length=xs.length+1:=by simp
 have hyl:ys.length=xs.length * 5:=h.own.1;have hk:Keeps (vA base (.slice la xs.length cap) W) (vA base (.slice (some ⟨g,0,none⟩) (xs.length+1) cap') W') W W':=
  ⟨fun b hb=>hg.rest b hb.2.1 (by have:=hb.1; omega) (fun e=>hb.2.2 e.symm),fun b hb=>⟨hb.1,Nat.lt_of_lt_of_le hb.2.1 hg.size,fun e=>by
   rcases hg.row b e with h1|h1
   ·exact hb.2.2 h1
   ·have:=hb.2.1; omega⟩⟩
 refine⟨by rw[e]; exact hg.box,by rw[e]; exact hg.own,?_,?_⟩
 ·intro g' hg'
  rw[e] at hg';exact (zk hg.own g' hg').2
 ·intro j hj
  rw[e]
  by_cases hjx:j<xs.length
  ·obtain⟨c,h1,h2,h3⟩:=h.items j hjx
   refine⟨c,h1,fun t ht=>?_,?_⟩
   ·rw[List.getElem?_append_left (by omega)]
    exact h2 t ht
   ·rw[List.getElem_append_left hjx]
    exact hC hk h3
  ·have hje:j=xs.length:=by omega
   subst hje;refine⟨cs,hcs,fun t _=>?_,?_⟩
   ·rw[List.getElem?_append_right (by omega),hyl]
    congr 1
    omega
   ·rw[List.getElem_append_right (Nat.le_refl _)]
    simp only[Nat.sub_self,List.getElem_cons_zero];exact hC hk (hC ⟨fun _ _=>rfl,fun b hb=>⟨by have:=hb.1; omega,hb.2,fun e=>by have:=h.old b e; have:=hb.1; omega⟩⟩ hx)
theorem ListOf.toSl {P:(Nat->Prop)->World->α->Nat->Nat->Prop} (hC:∀{S S':Nat->Prop} {W W':World} {x:α} {cs:List Value},Keeps S S' W W'->C S W x cs->C S' W' x cs)
  (hP:∀{S:Nat->Prop} {W:World} {x:α} {cs:List Value} {b o:Nat},cs.length=5->C S W x cs->(∀t u,cs[t]? = some u->W.cell? ⟨b,o+t,none⟩=some u)->P S W x b o) {base bl n1 n0:Nat} {xs:List α} {la:Option Addr} {cap:Nat} {ys:List Value} {W:World}
  (h:ListOf C T Tl base bl n1 xs la cap ys W) (hn0:n0<=base) (hmax:xs.length<=maxLen):ze (zm n0 W) (P (zm n0 W) W) 5 xs (.slice la xs.length cap):=by
 refine⟨la,cap,rfl,⟨hmax,?_⟩,?_⟩
 ·rcases h.own.2 with ⟨h1,h2⟩|⟨g,cap',cur,h1,_,_,h3,_⟩
  ·omega
  ·cases h1; exact h3
 ·rcases Nat.eq_zero_or_pos xs.length with h0|h0
  ·exact Or.inl h0
  ·right
   obtain⟨g,cap',hv⟩:=zas h.own h0
   cases hv
   have hin:=zk h.own g rfl;refine⟨g,0,rfl,⟨by omega,hin.2⟩,qA.mk fun j hj=>?_⟩;obtain⟨cs,h1,h2,h3⟩:=h.items j hj;refine hP h1 (hC ⟨fun _ _=>rfl,fun b hb=>⟨by have:=hb.1; omega,hb.2.1⟩⟩ h3) (fun t u hu=>?_);have ht:t<5:=by rw[<- h1]; exact (List.getElem?_eq_some_iff.1 hu).1
   rw[Nat.zero_add];exact kW h.own _ _ ((h2 t ht).trans hu)
end
end Go.Proofs.YtedpiamfpbdhoaaGreatDoor
