import Derived.Test.YtedpiamfpbdhoaaGreatDoorJFg9
set_option maxHeartbeats 40000000
set_option maxRecDepth 100000
namespace Go.Proofs.YtedpiamfpbdhoaaGreatDoor
open Go.RowKit
theorem J9 (l:List Fd):∀k j,k<=j->(vI l k).length<=(vI l j).length
 |k,0,h=>by
   have:k=0:=by omega
   subst this; exact Nat.le_refl _
 |k,j+1,h=>by
  by_cases e:k=j+1
  ·subst e; exact Nat.le_refl _
  ·have:=J9 l k j (by omega)
   simp only[vI,List.length_append]; omega
theorem zb7 (S:Nat->Prop) (B b:Nat) (x:Fu) (v:Value) (l:List UInt8) (w:World) (hS:∀c,S c->c<B) (hx:Xo S w x v) (hf:xw x=0) (hw:qf B b l w) (ht:Zr B w) (hlen:l.length+(Zg x).length<=140737488355328) :
  Calls Tryz.prog 30 #[.pointer (some ⟨b,0,none⟩),v] w fun e w'=>e=.returned (.tuple #[])/\qf B b (l++Zg x) w'/\Went B b w w':=by
 obtain⟨vp,k,f,n,va,k',n',f',s',va',rfl,hsz,hsz1,hps,hcs,hce⟩:=hx;obtain⟨va1,va2,va3,rfl⟩:=hcs.slice;obtain⟨ve1,ve2,ve3,rfl⟩:=hce.slice;obtain⟨vp1,vp3,rfl,⟨hplen,_⟩,hprest⟩:=hps;unfold maxLen at hplen;obtain⟨hnam,hvar,hp8,hfd,hres,hbody⟩:=zg9 hf;have HPR:=zd hprest;have HCT:=zd hcs;have HCE:=zd hce;have HFD:=zd hfd;have HTab:=zd ht;have hlt:=ye hw;have HB:Hid (Went B b w (w.alloc (.cells #[.string x.name,.string x.var,.slice vp1 x.params.length vp3,.int .i64 k,.string f,.string n,.slice va1 va2 va3,.int .i64 k',.int .i64 n',.string f',.string s',.slice ve1 ve2 ve3] 72))):=Went.of_below ((Below.refl _ _).alloc (Nat.le_refl _) _) (by omega);have HW:Hid (qf B b l (w.alloc (.cells #[.string x.name,.string x.var,.slice vp1 x.params.length vp3,.int .i64 k,.string f,.string n,.slice va1 va2 va3,.int .i64 k',.int .i64 n',.string f',.string s',.slice ve1 ve2 ve3] 72))):=hw.below ((Below.refl _ _).alloc (Nat.le_refl _) _);have HNew:=zd (heap_alloc_new w (.cells #[.string x.name,.string x.var,.slice vp1 x.params.length vp3,.int .i64 k,.string f,.string n,.slice va1 va2 va3,.int .i64 k',.int .i64 n',.string f',.string s',.slice ve1 ve2 ve3] 72));have hwb:w.heap.size≠b:=by omega
 have HVN:=zd (zdb x.var);clear hcs hce hprest hfd ht hw hf
 cases hv0:(x.var.toList==[])
 ·have hvs:QU x.var=[60]++(x.var.data.toList++[62]):=if_neg (by rw[<- HVN.out,hv0]; simp)
  rw[Zg,hvs] at hlen ⊢;simp only[List.length_append,List.length_cons,List.length_nil] at hlen;clear hvs HVN;go_enter Tryz.func30,Tryz.ntmps30;go_wp2_with fail;refine (zM B b l [⟨#[102,117,110,99,32]⟩,x.name] _ _ _ _ (by simp) rfl rfl ([102,117,110,99,32]++x.name.data.toList) HW.out (by simp) (by simp[qI]) (by simp only[List.length_append,List.length_cons,List.length_nil]; omega)).mono ?_;rintro e w1 ⟨rfl,q1,q2⟩;have HW1:=zd q1;have HE1:=zd q2;have e1:w1.cell? ⟨w.heap.size,1,none⟩=some (.string x.var):=q2.cell HNew.out hwb (by decide) 1;clear q1 q2 HW;go_wp2_with fail;refine (zM B b _ [⟨#[60]⟩,x.var,⟨#[62]⟩] w1 _ _ _ (by simp) rfl rfl ([60]++(x.var.data.toList++[62])) HW1.out (by simp) (by simp[qI]) (by simp only[List.length_append,List.length_cons,List.length_nil]; omega)).mono ?_;rintro e w2 ⟨rfl,q1,q2⟩;have HW2:=zd q1;have HE2:=zd (HE1.out.trans q2);clear q1 q2 HW1 HE1 e1;go_wp2_with fail;refine (zM B b _ [⟨#[40]⟩] w2 _ _ _ (by simp) rfl rfl [40] HW2.out (by decide) rfl (by simp only[List.length_append,List.length_cons,List.length_nil]; omega)).mono ?_;rintro e w3 ⟨rfl,q1,q2⟩;have HWs:=zd q1;have HEs:=zd (HE2.out.trans q2);have e2:w3.cell? ⟨w.heap.size,2,none⟩=some (.slice vp1 x.params.length vp3):=HEs.out.cell HNew.out hwb (by decide) 2;clear q1 q2 HW2 HE2;go_wp2_with fail
  go_loopw [25] (fun i wr=>∃j:Nat,j<=x.params.length/\i=.int .i64 j/\qf B b ((l++([102,117,110,99,32]++x.name.data.toList)++([60]++(x.var.data.toList++[62]))++[40])++vI x.params j) wr/\Went B b (w.alloc (.cells #[.string x.name,.string x.var,.slice vp1 x.params.length vp3,.int .i64 k,.string f,.string n,.slice va1 va2 va3,.int .i64 k',.int .i64 n',.string f',.string s',.slice ve1 ve2 ve3] 72)) wr) (fun i _=>x.params.length - (intOf i).toNat)
  case atStart=>exact⟨0,Nat.zero_le _,rfl,by simpa [vI] using HWs.out,HEs.out⟩
  case round=>
   clear HWs HEs;obtain⟨j,hj,rfl,hwr,hwe⟩:=hrel;have HWr:=zd hwr;have HEr:=zd hwe;have hltr:=ye hwr;clear hwr hwe
   by_cases hltk:j<x.params.length
   ·rcases HPR.out with h0|⟨bb,off,rfl,hb,hrow⟩
    ·omega
    have hbw:=hS bb hb;obtain⟨⟨c0,hfs⟩,hty⟩:=hrow.get j hltk;obtain⟨kd,fo,na,va,c1,c2,c3,c4,hcs⟩:=qL.1 hty;obtain⟨vb1,vb2,vb3,rfl⟩:=hcs.slice;rw[Nat.add_assoc] at c2 c3 c4;have hwent:=HB.out.trans HEr.out;have d0:=(qy hwent hbw (off+j * 5)).trans c0;have d1:=(qy hwent hbw (off+j * 5+1)).trans c1;have d2:=(qy hwent hbw (off+j * 5+2)).trans c2;have d3:=(qy hwent hbw (off+j * 5+3)).trans c3;have d4:=(qy hwent hbw (off+j * 5+4)).trans c4;have HC:=zd hcs;have hfd:=HFD.out j hltk;have HTy:Hid (zl x.params[j].is 1=0):=by
     show _=_;unfold zF at hfd
     split at hfd
     ·exact hfd
     ·omega
    have HST:Hid (vI x.params (j+1)=vI x.params j++((if j=0 then [] else [44,32])++ZO x.params[j])):=by show _=_; rw[vI,List.getElem?_eq_getElem hltk]; rfl
    have HFS:Hid (ZO x.params[j]=x.params[j].name.data.toList++([58,32]++yr x.params[j].is)):=rfl;have HLE':Hid ((vI x.params j).length+((if j=0 then [] else [44,32]:List UInt8).length+(x.params[j].name.data.toList.length+(2+(yr x.params[j].is).length)))<=(vI x.params x.params.length).length):=by
     show _<=_;have:=J9 x.params (j+1) x.params.length hltk;rw[HST.out,HFS.out] at this;simpa only[List.length_append,List.length_cons,List.length_nil] using this
    have HWa:=zd (HWr.out.below ((Below.refl _ _).alloc (Nat.le_refl _) (.cells #[.string x.params[j].name,.int .i64 kd,.string fo,.string na,.slice vb1 vb2 vb3] 86)));have HEa:=zd (HEr.out.alloc (by omega) (.cells #[.string x.params[j].name,.int .i64 kd,.string fo,.string na,.slice vb1 vb2 vb3] 86));have HNew2:=zd (heap_alloc_new wr (.cells #[.string x.params[j].name,.int .i64 kd,.string fo,.string na,.slice vb1 vb2 vb3] 86));have hnb:wr.heap.size≠b:=by omega
    clear c0 c1 c2 c3 c4 hcs hrow hty hfd HWr HEr hwent HPR HFD;generalize x.params[j]=pj at *;go_wp2_with fail;refine (YK B b j _ _ HWa.out ?_).mono ?_
    ·intro hk0
     have h1:=HLE'.out;have h2:=hlen;rw[if_neg hk0] at h1;simp only[List.length_cons,List.length_nil] at h1;simp only[List.length_append,List.length_cons,List.length_nil];omega
    rintro e w2 ⟨rfl,q1,q2⟩;have HW2:=zd q1;have HE2:=zd (HEa.out.trans q2);have HQ2:=zd (fun (W:World) (h:Went B b w2 W) (o:Nat)=>(q2.trans h).cell HNew2.out hnb (by decide) o);have e0:w2.cell? ⟨wr.heap.size,0,none⟩=some (.string pj.name):=q2.cell HNew2.out hnb (by decide) 0;clear q1 q2 HWa HEa d0 d1 d2 d3 d4;go_wp2_with fail;refine (zM B b _ [pj.name,⟨#[58,32]⟩] w2 _ _ _ (by simp) rfl rfl (pj.name.data.toList++[58,32]) HW2.out (by simp) (by simp[qI]) ?_).mono ?_
    ·have h1:=HLE'.out
     have h2:=hlen;simp only[List.length_append,List.length_cons,List.length_nil];omega
    rintro e w3 ⟨rfl,q1,q2⟩;have HW3:=zd q1;have HE3:=zd (HE2.out.trans q2);have e1:w3.cell? ⟨wr.heap.size,1,none⟩=some (.int .i64 kd):=HQ2.out w3 q2 1;have e2:w3.cell? ⟨wr.heap.size,2,none⟩=some (.string fo):=HQ2.out w3 q2 2;have e3:w3.cell? ⟨wr.heap.size,3,none⟩=some (.string na):=HQ2.out w3 q2 3;have e4:w3.cell? ⟨wr.heap.size,4,none⟩=some (.slice vb1 vb2 vb3):=HQ2.out w3 q2 4;clear q1 q2 HQ2 e0 HW2 HE2;go_wp2_with fail;refine (XF 10 1 (by omega) S B b pj.is _ _ w3 hS ⟨_,_,_,_,rfl,HC.out.keep (Keeps.below (HB.out.trans HE3.out).below hS)⟩ HTy.out HW3.out ?_).mono ?_
    ·have h1:=HLE'.out
     have h2:=hlen;simp only[List.length_append,List.length_cons,List.length_nil];omega
    rintro e w4 ⟨rfl,q1,q2⟩;have HW4:Hid (qf B b ((l++([102,117,110,99,32]++x.name.data.toList)++([60]++(x.var.data.toList++[62]))++[40])++vI x.params (j+1)) w4):=by
     show qf _ _ _ _;rw[HST.out,HFS.out];simpa [List.append_assoc] using q1
    have HE4:=zd (HE3.out.trans q2);clear q1 q2 HW3 HE3 e1 e2 e3 e4;go_wp2_with fail;exact⟨⟨j+1,by omega,by go_num,HW4.out,HE4.out⟩,by simp[intOf]; omega⟩
   ·have hkl:j=x.params.length:=by omega
    subst hkl;clear HPR HFD;have HQ:=zd (fun (W:World) (h:Went B b (w.alloc (.cells #[.string x.name,.string x.var,.slice vp1 x.params.length vp3,.int .i64 k,.string f,.string n,.slice va1 va2 va3,.int .i64 k',.int .i64 n',.string f',.string s',.slice ve1 ve2 ve3] 72)) W) (o:Nat)=>h.cell HNew.out hwb (by decide) o);go_wp2_with fail;refine (zM B b _ [⟨#[41,58,32]⟩] wr _ _ _ (by simp) rfl rfl [41,58,32] HWr.out (by decide) rfl (by simp only[List.length_append,List.length_cons,List.length_nil]; omega)).mono ?_;rintro e w2 ⟨rfl,q1,q2⟩;have HW2:=zd q1;have HE2:=zd (HEr.out.trans q2);clear q1 q2 HWr HEr;have e3:w2.cell? ⟨w.heap.size,3,none⟩=some (.int .i64 k):=HQ.out w2 HE2.out 3;have e4:w2.cell? ⟨w.heap.size,4,none⟩=some (.string f):=HQ.out w2 HE2.out 4;have e5:w2.cell? ⟨w.heap.size,5,none⟩=some (.string n):=HQ.out w2 HE2.out 5;have e6:w2.cell? ⟨w.heap.size,6,none⟩=some (.slice va1 va2 va3):=HQ.out w2 HE2.out 6;go_wp2_with fail;refine (XF 10 1 (by omega) S B b x.result _ _ w2 hS ⟨_,_,_,_,rfl,HCT.out.keep (Keeps.below (HB.out.trans HE2.out).below hS)⟩ hres HW2.out (by simp only[List.length_append,List.length_cons,List.length_nil]; omega)).mono ?_;rintro e w3 ⟨rfl,q1,q2⟩;have HW3:=zd q1;have HE3:=zd (HE2.out.trans q2);clear q1 q2 HW2 HE2 e3 e4 e5 e6;go_wp2_with fail;refine (zM B b _ [⟨#[32,61,32]⟩] w3 _ _ _ (by simp) rfl rfl [32,61,32] HW3.out (by decide) rfl (by simp only[List.length_append,List.length_cons,List.length_nil]; omega)).mono ?_;rintro e w4 ⟨rfl,q1,q2⟩;have HW4:=zd q1;have HE4:=zd (HE3.out.trans q2);clear q1 q2 HW3 HE3;have e3:w4.cell? ⟨w.heap.size,7,none⟩=some (.int .i64 k'):=HQ.out w4 HE4.out 7;have e4:w4.cell? ⟨w.heap.size,8,none⟩=some (.int .i64 n'):=HQ.out w4 HE4.out 8;have e5:w4.cell? ⟨w.heap.size,9,none⟩=some (.string f'):=HQ.out w4 HE4.out 9;have e6:w4.cell? ⟨w.heap.size,10,none⟩=some (.string s'):=HQ.out w4 HE4.out 10;have e7:w4.cell? ⟨w.heap.size,11,none⟩=some (.slice ve1 ve2 ve3):=HQ.out w4 HE4.out 11;go_wp2_with fail;refine (YL 10 1 (by omega) S B b x.body _ _ w4 hS ⟨_,_,_,_,_,rfl,HCE.out.keep (Keeps.below (HB.out.trans HE4.out).below hS)⟩ hbody HW4.out (HTab.out.keep (HB.out.trans HE4.out).below) (by simp only[List.length_append,List.length_cons,List.length_nil]; omega)).mono ?_;rintro e w5 ⟨rfl,q1,q2⟩;go_wp2_with fail;go_end0;exact⟨rfl,by simpa [List.append_assoc] using q1,(HB.out.trans HE4.out).trans q2⟩
 ·have hvs:QU x.var=[]:=if_pos (by rw[<- HVN.out,hv0])
  rw[Zg,hvs] at hlen ⊢;simp only[List.length_append,List.length_cons,List.length_nil,List.nil_append] at hlen;clear hvs HVN;go_enter Tryz.func30,Tryz.ntmps30;go_wp2_with fail;refine (zM B b l [⟨#[102,117,110,99,32]⟩,x.name] _ _ _ _ (by simp) rfl rfl ([102,117,110,99,32]++x.name.data.toList) HW.out (by simp) (by simp[qI]) (by simp only[List.length_append,List.length_cons,List.length_nil]; omega)).mono ?_;rintro e w1 ⟨rfl,q1,q2⟩;have HW1:=zd q1;have HE1:=zd q2;have e1:w1.cell? ⟨w.heap.size,1,none⟩=some (.string x.var):=q2.cell HNew.out hwb (by decide) 1;clear q1 q2 HW;go_wp2_with fail;refine (zM B b _ [⟨#[40]⟩] w1 _ _ _ (by simp) rfl rfl [40] HW1.out (by decide) rfl (by simp only[List.length_append,List.length_cons,List.length_nil]; omega)).mono ?_;rintro e w3 ⟨rfl,q1,q2⟩;have HWs:=zd q1;have HEs:=zd (HE1.out.trans q2);have e2:w3.cell? ⟨w.heap.size,2,none⟩=some (.slice vp1 x.params.length vp3):=HEs.out.cell HNew.out hwb (by decide) 2;clear q1 q2 HW1 HE1 e1;go_wp2_with fail
  go_loopw [25] (fun i wr=>∃j:Nat,j<=x.params.length/\i=.int .i64 j/\qf B b ((l++([102,117,110,99,32]++x.name.data.toList)++[40])++vI x.params j) wr/\Went B b (w.alloc (.cells #[.string x.name,.string x.var,.slice vp1 x.params.length vp3,.int .i64 k,.string f,.string n,.slice va1 va2 va3,.int .i64 k',.int .i64 n',.string f',.string s',.slice ve1 ve2 ve3] 72)) wr) (fun i _=>x.params.length - (intOf i).toNat)
  case atStart=>exact⟨0,Nat.zero_le _,rfl,by simpa [vI] using HWs.out,HEs.out⟩
  case round=>
   clear HWs HEs;obtain⟨j,hj,rfl,hwr,hwe⟩:=hrel;have HWr:=zd hwr;have HEr:=zd hwe;have hltr:=ye hwr;clear hwr hwe
   by_cases hltk:j<x.params.length
   ·rcases HPR.out with h0|⟨bb,off,rfl,hb,hrow⟩
    ·omega
    have hbw:=hS bb hb;obtain⟨⟨c0,hfs⟩,hty⟩:=hrow.get j hltk;obtain⟨kd,fo,na,va,c1,c2,c3,c4,hcs⟩:=qL.1 hty;obtain⟨vb1,vb2,vb3,rfl⟩:=hcs.slice;rw[Nat.add_assoc] at c2 c3 c4;have hwent:=HB.out.trans HEr.out;have d0:=(qy hwent hbw (off+j * 5)).trans c0;have d1:=(qy hwent hbw (off+j * 5+1)).trans c1;have d2:=(qy hwent hbw (off+j * 5+2)).trans c2;have d3:=(qy hwent hbw (off+j * 5+3)).trans c3;have d4:=(qy hwent hbw (off+j * 5+4)).trans c4;have HC:=zd hcs;have hfd:=HFD.out j hltk;have HTy:Hid (zl x.params[j].is 1=0):=by
     show _=_;unfold zF at hfd
     split at hfd
     ·exact hfd
     ·omega
    have HST:Hid (vI x.params (j+1)=vI x.params j++((if j=0 then [] else [44,32])++ZO x.params[j])):=by show _=_; rw[vI,List.getElem?_eq_getElem hltk]; rfl
    have HFS:Hid (ZO x.params[j]=x.params[j].name.data.toList++([58,32]++yr x.params[j].is)):=rfl;have HLE':Hid ((vI x.params j).length+((if j=0 then [] else [44,32]:List UInt8).length+(x.params[j].name.data.toList.length+(2+(yr x.params[j].is).length)))<=(vI x.params x.params.length).length):=by
     show _<=_;have:=J9 x.params (j+1) x.params.length hltk;rw[HST.out,HFS.out] at this;simpa only[List.length_append,List.length_cons,List.length_nil] using this
    have HWa:=zd (HWr.out.below ((Below.refl _ _).alloc (Nat.le_refl _) (.cells #[.string x.params[j].name,.int .i64 kd,.string fo,.string na,.slice vb1 vb2 vb3] 86)));have HEa:=zd (HEr.out.alloc (by omega) (.cells #[.string x.params[j].name,.int .i64 kd,.string fo,.string na,.slice vb1 vb2 vb3] 86));have HNew2:=zd (heap_alloc_new wr (.cells #[.string x.params[j].name,.int .i64 kd,.string fo,.string na,.slice vb1 vb2 vb3] 86));have hnb:wr.heap.size≠b:=by omega
    clear c0 c1 c2 c3 c4 hcs hrow hty hfd HWr HEr hwent HPR HFD;generalize x.params[j]=pj at *;go_wp2_with fail;refine (YK B b j _ _ HWa.out ?_).mono ?_
    ·intro hk0
     have h1:=HLE'.out;have h2:=hlen;rw[if_neg hk0] at h1;simp only[List.length_cons,List.length_nil] at h1;simp only[List.length_append,List.length_cons,List.length_nil];omega
    rintro e w2 ⟨rfl,q1,q2⟩;have HW2:=zd q1;have HE2:=zd (HEa.out.trans q2);have HQ2:=zd (fun (W:World) (h:Went B b w2 W) (o:Nat)=>(q2.trans h).cell HNew2.out hnb (by decide) o);have e0:w2.cell? ⟨wr.heap.size,0,none⟩=some (.string pj.name):=q2.cell HNew2.out hnb (by decide) 0;clear q1 q2 HWa HEa d0 d1 d2 d3 d4;go_wp2_with fail;refine (zM B b _ [pj.name,⟨#[58,32]⟩] w2 _ _ _ (by simp) rfl rfl (pj.name.data.toList++[58,32]) HW2.out (by simp) (by simp[qI]) ?_).mono ?_
    ·have h1:=HLE'.out
     have h2:=hlen;simp only[List.length_append,List.length_cons,List.length_nil];omega
    rintro e w3 ⟨rfl,q1,q2⟩;have HW3:=zd q1;have HE3:=zd (HE2.out.trans q2);have e1:w3.cell? ⟨wr.heap.size,1,none⟩=some (.int .i64 kd):=HQ2.out w3 q2 1;have e2:w3.cell? ⟨wr.heap.size,2,none⟩=some (.string fo):=HQ2.out w3 q2 2;have e3:w3.cell? ⟨wr.heap.size,3,none⟩=some (.string na):=HQ2.out w3 q2 3;have e4:w3.cell? ⟨wr.heap.size,4,none⟩=some (.slice vb1 vb2 vb3):=HQ2.out w3 q2 4;clear q1 q2 HQ2 e0 HW2 HE2;go_wp2_with fail;refine (XF 10 1 (by omega) S B b pj.is _ _ w3 hS ⟨_,_,_,_,rfl,HC.out.keep (Keeps.below (HB.out.trans HE3.out).below hS)⟩ HTy.out HW3.out ?_).mono ?_
    ·have h1:=HLE'.out
     have h2:=hlen;simp only[List.length_append,List.length_cons,List.length_nil];omega
    rintro e w4 ⟨rfl,q1,q2⟩;have HW4:Hid (qf B b ((l++([102,117,110,99,32]++x.name.data.toList)++[40])++vI x.params (j+1)) w4):=by
     show qf _ _ _ _;rw[HST.out,HFS.out];simpa [List.append_assoc] using q1
    have HE4:=zd (HE3.out.trans q2);clear q1 q2 HW3 HE3 e1 e2 e3 e4;go_wp2_with fail;exact⟨⟨j+1,by omega,by go_num,HW4.out,HE4.out⟩,by simp[intOf]; omega⟩
   ·have hkl:j=x.params.length:=by omega
    subst hkl;clear HPR HFD;have HQ:=zd (fun (W:World) (h:Went B b (w.alloc (.cells #[.string x.name,.string x.var,.slice vp1 x.params.length vp3,.int .i64 k,.string f,.string n,.slice va1 va2 va3,.int .i64 k',.int .i64 n',.string f',.string s',.slice ve1 ve2 ve3] 72)) W) (o:Nat)=>h.cell HNew.out hwb (by decide) o);go_wp2_with fail;refine (zM B b _ [⟨#[41,58,32]⟩] wr _ _ _ (by simp) rfl rfl [41,58,32] HWr.out (by decide) rfl (by simp only[List.length_append,List.length_cons,List.length_nil]; omega)).mono ?_;rintro e w2 ⟨rfl,q1,q2⟩;have HW2:=zd q1;have HE2:=zd (HEr.out.trans q2);clear q1 q2 HWr HEr;have e3:w2.cell? ⟨w.heap.size,3,none⟩=some (.int .i64 k):=HQ.out w2 HE2.out 3;have e4:w2.cell? ⟨w.heap.size,4,none⟩=some (.string f):=HQ.out w2 HE2.out 4;have e5:w2.cell? ⟨w.heap.size,5,none⟩=some (.string n):=HQ.out w2 HE2.out 5;have e6:w2.cell? ⟨w.heap.size,6,none⟩=some (.slice va1 va2 va3):=HQ.out w2 HE2.out 6;go_wp2_with fail;refine (XF 10 1 (by omega) S B b x.result _ _ w2 hS ⟨_,_,_,_,rfl,HCT.out.keep (Keeps.below (HB.out.trans HE2.out).below hS)⟩ hres HW2.out (by simp only[List.length_append,List.length_cons,List.length_nil]; omega)).mono ?_;rintro e w3 ⟨rfl,q1,q2⟩;have HW3:=zd q1;have HE3:=zd (HE2.out.trans q2);clear q1 q2 HW2 HE2 e3 e4 e5 e6;go_wp2_with fail;refine (zM B b _ [⟨#[32,61,32]⟩] w3 _ _ _ (by simp) rfl rfl [32,61,32] HW3.out (by decide) rfl (by simp only[List.length_append,List.length_cons,List.length_nil]; omega)).mono ?_;rintro e w4 ⟨rfl,q1,q2⟩;have HW4:=zd q1;have HE4:=zd (HE3.out.trans q2);clear q1 q2 HW3 HE3;have e3:w4.cell? ⟨w.heap.size,7,none⟩=some (.int .i64 k'):=HQ.out w4 HE4.out 7;have e4:w4.cell? ⟨w.heap.size,8,none⟩=some (.int .i64 n'):=HQ.out w4 HE4.out 8;have e5:w4.cell? ⟨w.heap.size,9,none⟩=some (.string f'):=HQ.out w4 HE4.out 9;have e6:w4.cell? ⟨w.heap.size,10,none⟩=some (.string s'):=HQ.out w4 HE4.out 10;have e7:w4.cell? ⟨w.heap.size,11,none⟩=some (.slice ve1 ve2 ve3):=HQ.out w4 HE4.out 11;go_wp2_with fail;refine (YL 10 1 (by omega) S B b x.body _ _ w4 hS ⟨_,_,_,_,_,rfl,HCE.out.keep (Keeps.below (HB.out.trans HE4.out).below hS)⟩ hbody HW4.out (HTab.out.keep (HB.out.trans HE4.out).below) (by simp only[List.length_append,List.length_cons,List.length_nil]; omega)).mono ?_;rintro e w5 ⟨rfl,q1,q2⟩;go_wp2_with fail;go_end0;exact⟨rfl,by simpa [List.append_assoc] using q1,(HB.out.trans HE4.out).trans q2⟩
def XG (m:Mo):ByteArray:=if zI m=0 then kL (J6 m) else ⟨#[]⟩
theorem XV {α:Type} (g:α->List UInt8) (l:List α):∀k j,k<=j->(zY g l k).length<=(zY g l j).length
 |k,0,h=>by
   have:k=0:=by omega
   subst this; exact Nat.le_refl _
 |k,j+1,h=>by
  by_cases e:k=j+1
  ·subst e; exact Nat.le_refl _
  ·have:=XV g l k j (by omega)
   simp only[zY,List.length_append]; omega
theorem XW {α:Type} (g:α->List UInt8) (l:List α) (k:Nat) (h:k<l.length):zY g l (k+1)=zY g l k++g l[k]:=by
 rw[zY,List.getElem?_eq_getElem h]; rfl
theorem zgk {s:ByteArray} (h:zf s=true):(vD s).length<=200000000500:=by
 have:=yF h;simp only[vD,List.length_append,List.length_cons,List.length_nil]; omega
theorem zeF {f:Fd} (h:zF f=0):(yE f).length<=200000000500:=by
 have h1:zf f.name=true:=by
  unfold zF at h
  split at h
  ·assumption
  ·omega
 have h2:zl f.is 1=0:=by
  unfold zF at h
  rwa [if_pos h1] at h
 have a1:=yF h1;have a2:=J7 10 f.is 1 (by omega) h2;simp only[yE,List.length_append,List.length_cons,List.length_nil]; omega
theorem zhq {m:Mo} (h:zI m=0) (hs:m.uses.length+m.types.length+m.funcs.length<4611686018427387904) :
  (zY vD m.uses m.uses.length).length+((zY yE m.types m.types.length).length+(zY v7 m.funcs m.funcs.length).length)<=24 * 200000000500:=by
 obtain⟨h0,h1,h2,h3⟩:=zha h;have hsum:m.uses.length+m.types.length+m.funcs.length<=24:=by
  unfold wrap64 at h0;omega
 have a1:=QB vD 200000000500 m.uses (fun j hj=>zgk (h1 j hj)) _ (Nat.le_refl _);have a2:=QB yE 200000000500 m.types (fun j hj=>zeF (h2 j hj)) _ (Nat.le_refl _);have a3:=QB v7 200000000500 m.funcs (fun j hj=>zhp (h3 j hj)) _ (Nat.le_refl _);have e:(m.uses.length+m.types.length+m.funcs.length) * 200000000500<=24 * 200000000500:=Nat.mul_le_mul_right _ hsum;rw[Nat.add_mul,Nat.add_mul] at e;omega
theorem zb8 (w:World) (B:Nat) (hB:B<=w.heap.size):qf B w.heap.size [] (w.alloc (.cells #[.pointer none,.slice none 0 0] 83)):=by
 refine Or.inl ⟨hB,.slice none 0 0,?_,World.ownsRow_nil _ _ _ _,by simp[Value.ownBlock]⟩;exact heap_alloc_new w _
theorem za8 (S:Nat->Prop) (x:Mo) (v:Value) (w:World) (hS:∀b,S b->b<w.heap.size) (hx:qT S w x v) (ht:Zr w.heap.size w) (hs:x.uses.length+x.types.length+x.funcs.length<4611686018427387904) :
  Calls Tryz.prog 9 #[v] w fun e w'=>e=.returned (.tuple #[.string (XG x),.int .i64 (zI x)])/\Below w.heap.size w w':=by
 have HX:=zd hx;obtain⟨vu,vt,vf,rfl,hu,hty,hf⟩:=hx;obtain⟨u1,u3,rfl,⟨hul,_⟩,hur⟩:=hu;obtain⟨t1,t3,rfl,⟨htl,_⟩,htr⟩:=hty;obtain⟨f1,f3,rfl,⟨hfl,_⟩,hfr⟩:=hf;have HU:=zd hur;have HTy:=zd htr;have HFu:=zd hfr;have HTab:=zd ht;clear hur htr hfr ht;have HB:Hid (Below w.heap.size w (w.alloc (.cells #[.slice u1 x.uses.length u3,.slice t1 x.types.length t3,.slice f1 x.funcs.length f3] 41))):=(Below.refl _ _).alloc (Nat.le_refl _) _;have HCk:=zd (Yp S x (.agg #[.slice u1 x.uses.length u3,.slice t1 x.types.length t3,.slice f1 x.funcs.length f3]) (w.alloc (.cells #[.slice u1 x.uses.length u3,.slice t1 x.types.length t3,.slice f1 x.funcs.length f3] 41)) (zR hS HB.out) (HX.out.keep (Keeps.below HB.out hS)))
 by_cases h0:zI x=0
 rotate_left
 ·have hz':(zI x != 0)=true:=bne_iff_ne.2 h0
  have HTx:Hid (XG x=⟨#[]⟩):=if_neg h0;clear h0 hul htl hfl hs;go_enter Tryz.func9,Tryz.ntmps9;go_wp2_with fail;refine HCk.out.mono ?_;rintro e w1 ⟨rfl,hb1⟩;go_wp2_with fail;go_ret2;exact⟨by rw[HTx.out]; rfl,HB.out.trans (hb1.mono (by simp))⟩
 have hz':(zI x != 0)=false:=by rw[h0]; rfl
 have HTx:Hid (XG x=kL (J6 x)):=if_pos h0;have hsz:=zhq h0 hs;obtain⟨_,hg1,hg2,hg3⟩:=zha h0;have HG1:=zd hg1;have HG2:=zd hg2;have HG3:=zd hg3;clear hg1 hg2 hg3;unfold maxLen at hul htl hfl;go_enter Tryz.func9,Tryz.ntmps9;go_wp2_with fail;refine HCk.out.mono ?_;rintro e w1 ⟨rfl,hb1⟩;rw[h0];have HB1:=zd (HB.out.trans (hb1.mono (by simp)));have hs1:w.heap.size+1<=w1.heap.size:=by have:=hb1.size; simpa using this
 have hbox1:w1.heap[w.heap.size]? = some (.cells #[.slice u1 x.uses.length u3,.slice t1 x.types.length t3,.slice f1 x.funcs.length f3] 41):=(hb1.block _ (by simp)).trans (heap_alloc_new w _);have HBox:Hid ((w1.alloc (.cells #[.pointer none,.slice none 0 0] 83)).heap[w.heap.size]? = some (.cells #[.slice u1 x.uses.length u3,.slice t1 x.types.length t3,.slice f1 x.funcs.length f3] 41)):=(Below.heap_alloc _ _ _ (by omega)).trans hbox1;have HNew:=zd (zb8 w1 w.heap.size (by omega));have HP0:=zd (HB1.out.alloc (by omega) (.cells #[.pointer none,.slice none 0 0] 83));have hpw:w.heap.size≠w1.heap.size:=by omega
 have hlw:w.heap.size<w1.heap.size:=by omega
 have c0:w1.cell? ⟨w.heap.size,0,none⟩=some (.slice u1 x.uses.length u3):=by rw[Lib.cell_of_heap hbox1]; rfl
 have HF0:=zd h0;clear hb1 hbox1 HCk h0;go_wp2_with fail
 go_loopw [20] (fun i wr=>∃j:Nat,j<=x.uses.length/\i=.int .i64 j/\qf w.heap.size w1.heap.size (zY vD x.uses j) wr/\Went w.heap.size w1.heap.size (w1.alloc (.cells #[.pointer none,.slice none 0 0] 83)) wr) (fun i _=>x.uses.length - (intOf i).toNat)
 case atStart=>exact⟨0,Nat.zero_le _,rfl,HNew.out,Went.refl _ _ _⟩
 case round=>
  clear HNew c0;obtain⟨j,hj,rfl,hwr,hwe⟩:=hrel;have HWr:=zd hwr;have HEr:=zd hwe;clear hwr hwe
  by_cases hlt:j<x.uses.length
  ·rcases HU.out with hn0|⟨bb,off,rfl,hb,hrow⟩
   ·omega
   have hbw:=hS bb hb;obtain⟨c0,hfs⟩:=hrow.get j hlt;rw[Nat.mul_one] at c0;have d0:=((HP0.out.trans HEr.out.below).cell (p:=⟨bb,off+j,none⟩) hbw).trans c0;have HST:=zd (XW vD x.uses j hlt);have HLE:=zd (XV vD x.uses (j+1) x.uses.length hlt);clear c0 hrow HU;generalize x.uses[j]=pj at *;have HUL:Hid (vD pj=[117,115,101,32]++(pj.data.toList++[10])):=rfl;go_wp2_with fail;refine (zM w.heap.size w1.heap.size _ [⟨#[117,115,101,32]⟩,pj,⟨#[10]⟩] wr _ _ _ (by simp) rfl rfl (vD pj) HWr.out (by simp) (by simp[qI,HUL.out]) ?_).mono ?_
   ·have h1:=HLE.out
    rw[HST.out,List.length_append] at h1;omega
   rintro e w2 ⟨rfl,q1,q2⟩;rw[<- HST.out] at q1;have HW2:=zd q1;have HE2:=zd (HEr.out.trans q2);clear q1 q2;go_wp2_with fail;exact⟨⟨j+1,by omega,by go_num,HW2.out,HE2.out⟩,by simp[intOf]; omega⟩
  ·have hje:j=x.uses.length:=by omega
   subst hje;have c1:wr.cell? ⟨w.heap.size,1,none⟩=some (.slice t1 x.types.length t3):=HEr.out.cell HBox.out hpw (by decide) 1;clear HU;go_wp2_with fail
   go_loopw [31] (fun i wr=>∃j:Nat,j<=x.types.length/\i=.int .i64 j/\qf w.heap.size w1.heap.size (zY vD x.uses x.uses.length++zY yE x.types j) wr/\Went w.heap.size w1.heap.size (w1.alloc (.cells #[.pointer none,.slice none 0 0] 83)) wr) (fun i _=>x.types.length - (intOf i).toNat)
   case atStart=>exact⟨0,Nat.zero_le _,rfl,by simpa [zY] using HWr.out,HEr.out⟩
   case round=>
    clear c1 hj hlt HWr HEr;obtain⟨j,hj,rfl,hwr,hwe⟩:=hrel;have HWr:=zd hwr;have HEr:=zd hwe;have hltr:=ye hwr;clear hwr hwe
    by_cases hlt:j<x.types.length
    ·rcases HTy.out with hn0|⟨bb,off,rfl,hb,hrow⟩
     ·omega
     have hbw:=hS bb hb;obtain⟨⟨c0,hfs⟩,hty⟩:=hrow.get j hlt;obtain⟨kd,fo,na,va,c1,c2,c3,c4,hcs⟩:=qL.1 hty;obtain⟨vb1,vb2,vb3,rfl⟩:=hcs.slice;rw[Nat.add_assoc] at c2 c3 c4;have hbel:=HP0.out.trans HEr.out.below;have d0:=(hbel.cell (p:=⟨bb,off+j * 5,none⟩) hbw).trans c0;have d1:=(hbel.cell (p:=⟨bb,off+j * 5+1,none⟩) hbw).trans c1;have d2:=(hbel.cell (p:=⟨bb,off+j * 5+2,none⟩) hbw).trans c2;have d3:=(hbel.cell (p:=⟨bb,off+j * 5+3,none⟩) hbw).trans c3;have d4:=(hbel.cell (p:=⟨bb,off+j * 5+4,none⟩) hbw).trans c4;have HC:=zd hcs;have hfd:=HG2.out j hlt;have HTyF:Hid (zl x.types[j].is 1=0):=by
      show _=_;unfold zF at hfd
      split at hfd
      ·exact hfd
      ·omega
     have HST:=zd (XW yE x.types j hlt);have HLE:=zd (XV yE x.types (j+1) x.types.length hlt);have HWa:=zd (HWr.out.below ((Below.refl _ _).alloc (Nat.le_refl _) (.cells #[.string x.types[j].name,.int .i64 kd,.string fo,.string na,.slice vb1 vb2 vb3] 86)));have HEa:=zd (HEr.out.alloc (by omega) (.cells #[.string x.types[j].name,.int .i64 kd,.string fo,.string na,.slice vb1 vb2 vb3] 86));have HNew2:=zd (heap_alloc_new wr (.cells #[.string x.types[j].name,.int .i64 kd,.string fo,.string na,.slice vb1 vb2 vb3] 86));have hnb:wr.heap.size≠w1.heap.size:=by omega
     clear c0 c1 c2 c3 c4 hcs hrow hty hfd hbel HWr HEr HTy HG2;generalize x.types[j]=pj at *;have HTL:Hid (yE pj=[116,121,112,101,32]++(pj.name.data.toList++([32,61,32]++(yr pj.is++[10])))):=rfl;have HLn:Hid ((zY yE x.types j).length+(5+(pj.name.data.toList.length+(3+((yr pj.is).length+1))))<=(zY yE x.types x.types.length).length):=by
      show _<=_;have:=HLE.out;rw[HST.out,HTL.out] at this;simpa only[List.length_append,List.length_cons,List.length_nil] using this
     go_wp2_with fail;refine (zM w.heap.size w1.heap.size _ [⟨#[116,121,112,101,32]⟩,pj.name,⟨#[32,61,32]⟩] _ _ _ _ (by simp) rfl rfl ([116,121,112,101,32]++(pj.name.data.toList++[32,61,32])) HWa.out (by simp) (by simp[qI]) ?_).mono ?_
     ·have h1:=HLn.out
      simp only[List.length_append,List.length_cons,List.length_nil];omega
     rintro e w2 ⟨rfl,q1,q2⟩;have HW2:=zd q1;have HE2:=zd (HEa.out.trans q2);have e1:w2.cell? ⟨wr.heap.size,1,none⟩=some (.int .i64 kd):=q2.cell HNew2.out hnb (by decide) 1;have e2:w2.cell? ⟨wr.heap.size,2,none⟩=some (.string fo):=q2.cell HNew2.out hnb (by decide) 2;have e3:w2.cell? ⟨wr.heap.size,3,none⟩=some (.string na):=q2.cell HNew2.out hnb (by decide) 3;have e4:w2.cell? ⟨wr.heap.size,4,none⟩=some (.slice vb1 vb2 vb3):=q2.cell HNew2.out hnb (by decide) 4;clear q1 q2 HWa HEa d0 d1 d2 d3 d4;go_wp2_with fail;refine (XF 10 1 (by omega) S w.heap.size w1.heap.size pj.is _ _ w2 hS ⟨_,_,_,_,rfl,HC.out.keep (Keeps.below (HP0.out.trans HE2.out.below) hS)⟩ HTyF.out HW2.out ?_).mono ?_
     ·have h1:=HLn.out
      simp only[List.length_append,List.length_cons,List.length_nil];omega
     rintro e w3 ⟨rfl,q1,q2⟩;have HW3:=zd q1;have HE3:=zd (HE2.out.trans q2);clear q1 q2 HW2 HE2 e1 e2 e3 e4;go_wp2_with fail;refine (zM w.heap.size w1.heap.size _ [⟨#[10]⟩] w3 _ _ _ (by simp) rfl rfl [10] HW3.out (by decide) rfl ?_).mono ?_
     ·have h1:=HLn.out
      simp only[List.length_append,List.length_cons,List.length_nil];omega
     rintro e w4 ⟨rfl,q1,q2⟩;have HW4:Hid (qf w.heap.size w1.heap.size (zY vD x.uses x.uses.length++zY yE x.types (j+1)) w4):=by
      show qf _ _ _ _;rw[HST.out,HTL.out];simpa [List.append_assoc] using q1
     have HE4:=zd (HE3.out.trans q2);clear q1 q2 HW3 HE3;go_wp2_with fail;exact⟨⟨j+1,by omega,by go_num,HW4.out,HE4.out⟩,by simp[intOf]; omega⟩
    ·have hje:j=x.types.length:=by omega
     subst hje;have c2:wr.cell? ⟨w.heap.size,2,none⟩=some (.slice f1 x.funcs.length f3):=HEr.out.cell HBox.out hpw (by decide) 2;clear HTy HG2;go_wp2_with fail
     go_loopw [48] (fun i wr=>∃j:Nat,j<=x.funcs.length/\i=.int .i64 j/\qf w.heap.size w1.heap.size (zY vD x.uses x.uses.length++zY yE x.types x.types.length++zY v7 x.funcs j) wr/\Went w.heap.size w1.heap.size (w1.alloc (.cells #[.pointer none,.slice none 0 0] 83)) wr) (fun i _=>x.funcs.length - (intOf i).toNat)
     case atStart=>exact⟨0,Nat.zero_le _,rfl,by simpa [zY] using HWr.out,HEr.out⟩
     case round=>
      clear c2 hj hlt HWr HEr hltr;obtain⟨j,hj,rfl,hwr,hwe⟩:=hrel;have HWr:=zd hwr;have HEr:=zd hwe;have hltr:=ye hwr;clear hwr hwe
      by_cases hlt:j<x.funcs.length
      ·rcases HFu.out with hn0|⟨bb,off,rfl,hb,hrow⟩
       ·omega
       have hbw:=hS bb hb;obtain⟨⟨c0,hsz0⟩,⟨c1,hsz1⟩,⟨vp,c2,hps⟩,hty,hex⟩:=hrow.get j hlt;obtain⟨kd,fo,na,va,c3,c4,c5,c6,hcs⟩:=qL.1 hty;obtain⟨ke,ne,fe,se,ve,c7,c8,c9,c10,c11,hce⟩:=qU.1 hex;obtain⟨va1,va2,va3,rfl⟩:=hcs.slice;obtain⟨vp1,vp2,vp3,rfl⟩:=hps.slice;obtain⟨ve1,ve2,ve3,rfl⟩:=hce.slice;rw[Nat.add_assoc] at c4 c5 c6 c8 c9 c10 c11;have hbel:=HP0.out.trans HEr.out.below;have d0:=(hbel.cell (p:=⟨bb,off+j * 12,none⟩) hbw).trans c0;have d1:=(hbel.cell (p:=⟨bb,off+j * 12+1,none⟩) hbw).trans c1;have d2:=(hbel.cell (p:=⟨bb,off+j * 12+2,none⟩) hbw).trans c2;have d3:=(hbel.cell (p:=⟨bb,off+j * 12+3,none⟩) hbw).trans c3;have d4:=(hbel.cell (p:=⟨bb,off+j * 12+4,none⟩) hbw).trans c4;have d5:=(hbel.cell (p:=⟨bb,off+j * 12+5,none⟩) hbw).trans c5;have d6:=(hbel.cell (p:=⟨bb,off+j * 12+6,none⟩) hbw).trans c6;have d7:=(hbel.cell (p:=⟨bb,off+j * 12+7,none⟩) hbw).trans c7;have d8:=(hbel.cell (p:=⟨bb,off+j * 12+8,none⟩) hbw).trans c8;have d9:=(hbel.cell (p:=⟨bb,off+j * 12+9,none⟩) hbw).trans c9;have d10:=(hbel.cell (p:=⟨bb,off+j * 12+10,none⟩) hbw).trans c10;have d11:=(hbel.cell (p:=⟨bb,off+j * 12+11,none⟩) hbw).trans c11;have hkp:Keeps S S w (wr.alloc (.cells #[.string x.funcs[j].name,.string x.funcs[j].var,.slice vp1 vp2 vp3,.int .i64 kd,.string fo,.string na,.slice va1 va2 va3,.int .i64 ke,.int .i64 ne,.string fe,.string se,.slice ve1 ve2 ve3] 72)):=Keeps.below (hbel.alloc (by omega) _) hS;have HFI:Hid (Xo S (wr.alloc (.cells #[.string x.funcs[j].name,.string x.funcs[j].var,.slice vp1 vp2 vp3,.int .i64 kd,.string fo,.string na,.slice va1 va2 va3,.int .i64 ke,.int .i64 ne,.string fe,.string se,.slice ve1 ve2 ve3] 72)) x.funcs[j] (.agg #[.string x.funcs[j].name,.string x.funcs[j].var,.slice vp1 vp2 vp3,.int .i64 kd,.string fo,.string na,.slice va1 va2 va3,.int .i64 ke,.int .i64 ne,.string fe,.string se,.slice ve1 ve2 ve3])):=⟨_,_,_,_,_,_,_,_,_,_,rfl,hsz0,hsz1,zP hkp hps,hcs.keep hkp,hce.keep hkp⟩
       have hfu:=HG3.out j hlt;have HTb:=zd (HTab.out.keep (hbel.alloc (by omega) (.cells #[.string x.funcs[j].name,.string x.funcs[j].var,.slice vp1 vp2 vp3,.int .i64 kd,.string fo,.string na,.slice va1 va2 va3,.int .i64 ke,.int .i64 ne,.string fe,.string se,.slice ve1 ve2 ve3] 72)));have HST:=zd (XW v7 x.funcs j hlt);have HLE:=zd (XV v7 x.funcs (j+1) x.funcs.length hlt);have HWa:=zd (HWr.out.below ((Below.refl _ _).alloc (Nat.le_refl _) (.cells #[.string x.funcs[j].name,.string x.funcs[j].var,.slice vp1 vp2 vp3,.int .i64 kd,.string fo,.string na,.slice va1 va2 va3,.int .i64 ke,.int .i64 ne,.string fe,.string se,.slice ve1 ve2 ve3] 72)));have HEa:=zd (HEr.out.alloc (by omega) (.cells #[.string x.funcs[j].name,.string x.funcs[j].var,.slice vp1 vp2 vp3,.int .i64 kd,.string fo,.string na,.slice va1 va2 va3,.int .i64 ke,.int .i64 ne,.string fe,.string se,.slice ve1 ve2 ve3] 72));clear c0 c1 c2 c3 c4 c5 c6 c7 c8 c9 c10 c11 hcs hrow hty hex hce hps hkp hbel HWr HEr HFu HG3;generalize x.funcs[j]=pj at *;have HTL:Hid (v7 pj=Zg pj++[10]):=rfl;have HLn:Hid ((zY v7 x.funcs j).length+((Zg pj).length+1)<=(zY v7 x.funcs x.funcs.length).length):=by
        show _<=_;have:=HLE.out;rw[HST.out,HTL.out] at this;simpa only[List.length_append,List.length_cons,List.length_nil] using this
       go_wp2_with fail;refine (zb7 S w.heap.size w1.heap.size pj _ _ _ hS HFI.out hfu HWa.out HTb.out ?_).mono ?_
       ·have h1:=HLn.out
        simp only[List.length_append];omega
       rintro e w2 ⟨rfl,q1,q2⟩;have HW2:=zd q1;have HE2:=zd (HEa.out.trans q2);clear q1 q2 HWa HEa HFI d0 d1 d2 d3 d4 d5 d6 d7 d8 d9 d10 d11;go_wp2_with fail;refine (zM w.heap.size w1.heap.size _ [⟨#[10]⟩] w2 _ _ _ (by simp) rfl rfl [10] HW2.out (by decide) rfl ?_).mono ?_
       ·have h1:=HLn.out
        simp only[List.length_append,List.length_cons,List.length_nil];omega
       rintro e w4 ⟨rfl,q1,q2⟩;have HW4:Hid (qf w.heap.size w1.heap.size (zY vD x.uses x.uses.length++zY yE x.types x.types.length++zY v7 x.funcs (j+1)) w4):=by
        show qf _ _ _ _;rw[HST.out,HTL.out];simpa [List.append_assoc] using q1
       have HE4:=zd (HE2.out.trans q2);clear q1 q2 HW2 HE2;go_wp2_with fail;exact⟨⟨j+1,by omega,by go_num,HW4.out,HE4.out⟩,by simp[intOf]; omega⟩
      ·have hje:j=x.funcs.length:=by omega
       subst hje;clear HFu HG3;go_wp2_with fail;refine (zdv w.heap.size w1.heap.size _ wr HWr.out).mono ?_;rintro e w2 ⟨rfl,q1⟩;go_wp2_with fail;go_ret2;refine⟨?_,(HP0.out.trans HEr.out.below).trans q1⟩;rw[HTx.out,HF0.out,J6,<- List.append_assoc]
       rfl
structure Kn where
 name:ByteArray
 is:ByteArray
structure Sg where
 name:ByteArray
 params:List ByteArray
 result:ByteArray
structure Fc where
 types:List Kn
 funcs:List Sg
structure Im where
 name:ByteArray
 there:Bool
 face:Fc
instance:Inhabited Kn:=⟨⟨.empty,.empty⟩⟩
instance:Inhabited Sg:=⟨⟨.empty,[],.empty⟩⟩
instance:Inhabited Im:=⟨⟨.empty,false,⟨[],[]⟩⟩⟩
def jp (w:World) (k:Kn) (b o:Nat):Prop:=zG w k.name b o/\zG w k.is b (o+1)
def ju (S:Nat->Prop) (w:World) (g:Sg) (b o:Nat):Prop:=
 zG w g.name b o/\(∃v,w.cell? ⟨b,o+1,none⟩=some v/\ze S (zG w) 1 g.params v)/\zG w g.result b (o+2)
def qB (S:Nat->Prop) (w:World) (g:Sg) (v:Value):Prop:=∃vp,v=.agg #[.string g.name,vp,.string g.result]/\g.name.size<=maxLen/\g.result.size<=maxLen/\ze S (zG w) 1 g.params vp
def Qs (S:Nat->Prop) (w:World) (f:Fc) (vt vf:Value):Prop:=ze S (jp w) 2 f.types vt/\ze S (ju S w) 3 f.funcs vf
def qC (S:Nat->Prop) (w:World) (f:Fc) (v:Value):Prop:=∃vt vf,v=.agg #[vt,vf]/\Qs S w f vt vf
def yd (S:Nat->Prop) (w:World) (i:Im) (b o:Nat):Prop:=
 zG w i.name b o/\w.cell? ⟨b,o+1,none⟩=some (.bool i.there)/\∃vt vf,w.cell? ⟨b,o+2,none⟩=some vt/\w.cell? ⟨b,o+3,none⟩=some vf/\Qs S w i.face vt vf
theorem jp.keep {S S':Nat->Prop} {w w':World} (hk:Keeps S S' w w') {k:Kn} {b o:Nat} (hb:S b) (h:jp w k b o):jp w' k b o:=⟨zG.keep hk hb h.1,zG.keep hk hb h.2⟩
theorem vj {S S':Nat->Prop} {w w':World} (hk:Keeps S S' w w') {l:List Kn} {v:Value} (h:ze S (jp w) 2 l v):ze S' (jp w') 2 l v:=h.imp hk.sub fun _ _ _ _ hb' h=>jp.keep hk hb' h
theorem ju.keep {S S':Nat->Prop} {w w':World} (hk:Keeps S S' w w') {g:Sg} {b o:Nat} (hb:S b) (h:ju S w g b o):ju S' w' g b o:=by
 obtain⟨h0,⟨v,hv,hp⟩,h1⟩:=h;exact⟨zG.keep hk hb h0,⟨v,by rwa [hk.cell hb],zU hk hp⟩,zG.keep hk hb h1⟩
theorem yO {S S':Nat->Prop} {w w':World} (hk:Keeps S S' w w') {l:List Sg} {v:Value} (h:ze S (ju S w) 3 l v):ze S' (ju S' w') 3 l v:=h.imp hk.sub fun _ _ _ _ hb' h=>ju.keep hk hb' h
theorem qB.keep {S S':Nat->Prop} {w w':World} (hk:Keeps S S' w w') {g:Sg} {v:Value} (h:qB S w g v):qB S' w' g v:=by
 obtain⟨vp,rfl,h1,h2,h3⟩:=h;exact⟨vp,rfl,h1,h2,zU hk h3⟩
theorem Qs.keep {S S':Nat->Prop} {w w':World} (hk:Keeps S S' w w') {f:Fc} {vt vf:Value} (h:Qs S w f vt vf):Qs S' w' f vt vf:=⟨vj hk h.1,yO hk h.2⟩
theorem qC.keep {S S':Nat->Prop} {w w':World} (hk:Keeps S S' w w') {f:Fc} {v:Value} (h:qC S w f v):qC S' w' f v:=by
 obtain⟨vt,vf,rfl,h1⟩:=h;exact⟨vt,vf,rfl,h1.keep hk⟩
theorem yd.keep {S S':Nat->Prop} {w w':World} (hk:Keeps S S' w w') {i:Im} {b o:Nat} (hb:S b) (h:yd S w i b o):yd S' w' i b o:=by
 obtain⟨h0,h1,vt,vf,h2,h3,h4⟩:=h;exact⟨zG.keep hk hb h0,by rwa [hk.cell hb],vt,vf,by rwa [hk.cell hb],by rwa [hk.cell hb],h4.keep hk⟩
theorem qd {S S':Nat->Prop} {w w':World} (hk:Keeps S S' w w') {l:List Im} {v:Value} (h:ze S (yd S w) 4 l v):ze S' (yd S' w') 4 l v:=h.imp hk.sub fun _ _ _ _ hb' h=>yd.keep hk hb' h
def sEq (a b:ByteArray):Bool:=a.toList==b.toList
def eqL {α:Type} (p:α->α->Bool):List α->List α->Bool
 |[],[]=>true
 |x::xs,y::ys=>p x y&&eqL p xs ys
 |[],_::_=>false
 |_::_,[]=>false
def ZP (a b:Kn):Bool:=sEq a.name b.name&&sEq a.is b.is
def jU (a b:Sg):Bool:=sEq a.name b.name&&(sEq a.result b.result&&eqL sEq a.params b.params)
def zdx (a b:Fc):Bool:=eqL ZP a.types b.types&&eqL jU a.funcs b.funcs
theorem Vm {α:Type} {p:α->α->Bool}:∀{l m:List α},l.length≠m.length->eqL p l m=false
 |[],[],h=>absurd rfl h
 |x::xs,y::ys,h=>by rw[eqL,Vm (l:=xs) (m:=ys) (fun e=>h (by simp[e]))]; simp
 |[],_::_,_=>rfl
 |_::_,[],_=>rfl
theorem VZ {α:Type} {p:α->α->Bool} {l m:List α} {k:Nat} (hl:k<l.length) (hm:k<m.length):eqL p (l.drop k) (m.drop k)=(p l[k] m[k]&&eqL p (l.drop (k+1)) (m.drop (k+1))):=by
 rw[List.drop_eq_getElem_cons hl,List.drop_eq_getElem_cons hm,eqL]
theorem Ka {α:Type} {p:α->α->Bool} {l m:List α} {k:Nat} (hl:l.length<=k) (hm:m.length<=k):eqL p (l.drop k) (m.drop k)=true:=by
 rw[List.drop_eq_nil_of_le hl,List.drop_eq_nil_of_le hm,eqL]
theorem XX {α:Type} {p:α->α->Bool} (hp:∀x,p x x=true):∀(l:List α),eqL p l l=true
 |[]=>rfl
 |x::xs=>by rw[eqL,hp,XX hp xs]; rfl
theorem kY (a:ByteArray):sEq a a=true:=by simp[sEq]
theorem zeG (a:Kn):ZP a a=true:=by simp[ZP,kY]
theorem zeH (a:Sg):jU a a=true:=by simp[jU,kY,XX kY]
theorem zeI (a:Fc):zdx a a=true:=by simp[zdx,XX zeG,XX zeH]
theorem ze.len {α:Type} {S:Nat->Prop} {P:α->Nat->Nat->Prop} {c:Nat} {l:List α} {v:Value} (h:ze S P c l v):l.length<=maxLen:=by
 obtain⟨_,_,_,h,_⟩:=h;exact h.1
theorem ze.is {α:Type} {S:Nat->Prop} {P:α->Nat->Nat->Prop} {c:Nat} {l:List α} {v:Value} (h:ze S P c l v):∃a cap,v=.slice a l.length cap:=by
 obtain⟨a,cap,rfl,_⟩:=h;exact⟨a,cap,rfl⟩
theorem ze.at {α:Type} {S:Nat->Prop} {P:α->Nat->Nat->Prop} {c:Nat} {l:List α} {a:Option Addr} {n cap:Nat} (h:ze S P c l (.slice a n cap)) {k:Nat} (hk:k<l.length) :
  n=l.length/\∃b o,a=some ⟨b,o,none⟩/\S b/\P l[k] b (o+k * c):=by
 obtain⟨a',cap',e,_,h⟩:=h;injection e with e1 e2 e3
 subst e1 e2
 rcases h with h|⟨b,o,rfl,hb,hr⟩
 ·omega
 ·exact⟨rfl,b,o,rfl,hb,hr.get k hk⟩
theorem ze.isCap {α:Type} {S:Nat->Prop} {P:α->Nat->Nat->Prop} {c:Nat} {l:List α} {v:Value} (h:ze S P c l v):∃a cap,v=.slice a l.length cap/\l.length<=cap:=by
 obtain⟨a,cap,rfl,h,_⟩:=h;exact⟨a,cap,rfl,h.2⟩
structure Rw where
 kind:Int
 a:Int
 b:Int
 c:Int
instance:Inhabited Rw:=⟨⟨0,0,0,0⟩⟩
def wfI (n:Int):Prop:=(Lit.int .i64 n).wf=true
def qK (w:World) (r:Rw) (b o:Nat):Prop:=
 (w.cell? ⟨b,o,none⟩=some (.int .i64 r.kind)/\w.cell? ⟨b,o+1,none⟩=some (.int .i64 r.a)/\w.cell? ⟨b,o+2,none⟩=some (.int .i64 r.b)/\w.cell? ⟨b,o+3,none⟩=some (.int .i64 r.c))/\wfI r.kind/\wfI r.a/\wfI r.b/\wfI r.c
theorem qK.keep {S S':Nat->Prop} {w w':World} (hk:Keeps S S' w w') {r:Rw} {b o:Nat} (hb:S b) (h:qK w r b o):qK w' r b o:=by
 obtain⟨⟨h0,h1,h2,h3⟩,h4⟩:=h;exact⟨⟨by rwa [hk.cell hb],by rwa [hk.cell hb],by rwa [hk.cell hb],by rwa [hk.cell hb]⟩,h4⟩
theorem vO {S S':Nat->Prop} {w w':World} (hk:Keeps S S' w w') {l:List Rw} {v:Value} (h:ze S (qK w) 4 l v):ze S' (qK w') 4 l v:=h.imp hk.sub fun _ _ _ _ hb' h=>qK.keep hk hb' h
theorem za9 (W:World):(sizeOf (Tryz.prog.elem 34)).run Tryz.prog W=.ok 4 W:=by
 have:(sizeOf 91).run Tryz.prog W=.ok 4 W:=by simp[go_sem]
 exact this
theorem Zs (a:Option Addr) (n cap i:Nat) (x:Int) (hx:x=i) (h:i<=n) (W:World):(Instr.slice 34 (.slice a n cap) (some (.int .i64 x)) none none).run Tryz.prog W=.ok (sliced a i n cap 4) W:=by
 subst hx;rw[run_slice_l W _ a n cap Tryz.underlying34 .i64 i (by omega) (by omega),za9];simp
theorem zba (a:Option Addr) (n cap j:Nat) (x:Int) (hx:x=j) (h:j<=cap) (W:World):(Instr.slice 34 (.slice a n cap) none (some (.int .i64 x)) none).run Tryz.prog W=.ok (sliced a 0 j cap 4) W:=by
 subst hx;rw[run_slice_h W _ a n cap Tryz.underlying34 .i64 j (by omega) (by omega),za9];simp
theorem zh0 (a:Option Addr) (n cap i j:Nat) (x y:Int) (hx:x=i) (hy:y=j) (h:i<=j) (h':j<=cap) (W:World):(Instr.slice 34 (.slice a n cap) (some (.int .i64 x)) (some (.int .i64 y)) none).run Tryz.prog W=.ok (sliced a i j cap 4) W:=by
 subst hx hy;rw[run_slice_lh W _ a n cap Tryz.underlying34 .i64 .i64 i j (by omega) (by omega) (by omega),za9];simp
theorem yW {α:Type} {S:Nat->Prop} {P:α->Nat->Nat->Prop} {c:Nat} {l:List α} {a:Option Addr} {n cap:Nat} (h:ze S P c l (.slice a n cap)) {i j:Nat} (hij:i<=j) (hj:j<=l.length) :
  ∃a' cap',sliced a i j cap c=.slice a' (j - i) cap'/\ze S P c ((l.drop i).take (j - i)) (.slice a' (j - i) cap'):=by
 obtain⟨a',cap',e,⟨h1,h2⟩,h3⟩:=h;injection e with e1 e2 e3
 subst e1 e2 e3;have hlen:((l.drop i).take (j - i)).length=j - i:=by rw[List.length_take,List.length_drop]; omega
 refine⟨_,_,rfl,_,cap - i,by rw[hlen],⟨by rw[hlen]; unfold maxLen at h1 ⊢; omega,by rw[hlen]; omega⟩,?_⟩;rw[hlen]
 by_cases h0:j - i=0
 ·exact Or.inl h0
 ·rcases h3 with h3|⟨b,o,rfl,hb,hr⟩
  ·omega
  ·rw[if_neg (by omega)]
   refine Or.inr ⟨b,o+i * c,by rw[Option.map_some,Go.WideShapes.add_plain],hb,qA.mk fun k hk=>?_⟩;rw[hlen] at hk;have:=hr.get (i+k) (by omega);rw[List.getElem_take,List.getElem_drop];rw[show o+i * c+k * c=o+(i+k) * c by rw[Nat.add_mul]; omega];exact this
theorem XY (n:Int) (hn:wfI n) (m:Int) (h0:0<m) (h1:m<=1000000) (w:World) :
  Calls Tryz.prog 13 #[.int .i64 n,.int .i64 m] w fun e w'=>∃k:Nat,e=.returned (.int .i64 k)/\(k:Int)<m/\w=w':=by
 have hx:-9223372036854775808<=n/\n<=9223372036854775807:=by simpa [wfI,Lit.wf,IntKind.min,IntKind.max,IntKind.signed,IntKind.bits] using hn
 obtain⟨hx0,hx1⟩:=hx;clear hn
 by_cases hneg:n<0
 ·have e:-((n+1).tmod m)=(((-(n+1)) % m).toNat:Int):=by
   rw[<- Int.neg_tmod,Int.tmod_eq_emod_of_nonneg (by omega),Int.toNat_of_nonneg (Int.emod_nonneg _ (by omega))]
  have hk:(((-(n+1)) % m).toNat:Int)<m:=by
   rw[Int.toNat_of_nonneg (Int.emod_nonneg _ (by omega))];exact Int.emod_lt_of_pos _ h0
  have HE:=zd e;have HK:=zd hk;clear e hk;go_enter Tryz.func13,Tryz.ntmps13
  go_wp2
  go_ret;exact⟨_,by rw[<- HE.out]; rfl,HK.out,rfl⟩
 ·have hk:((n % m).toNat:Int)<m:=by
   rw[Int.toNat_of_nonneg (Int.emod_nonneg _ (by omega))];exact Int.emod_lt_of_pos _ h0
  have e:n.tmod m=((n % m).toNat:Int):=by
   rw[Int.tmod_eq_emod_of_nonneg (by omega),Int.toNat_of_nonneg (Int.emod_nonneg _ (by omega))]
  have e':n % m=((n % m).toNat:Int):=by
   rw[Int.toNat_of_nonneg (Int.emod_nonneg _ (by omega))]
  have HE:=zd e;have HE':=zd e';have HK:=zd hk;clear e e' hk;go_enter Tryz.func13,Tryz.ntmps13
  go_wp2
  go_ret;exact⟨_,by first|(rw[<- HE.out]; rfl)|(rw[<- HE'.out]; rfl),HK.out,rfl⟩
def qz (w:World):Prop:=0<w.heap.size/\∀j,j<6->∃s:ByteArray,w.cell? ⟨0,j,none⟩=some (.string s)/\zf s=true/\s.size<=8
theorem qz.keep {w w':World} (h:qz w) (hb:Below w.heap.size w w'):qz w':=
 ⟨Nat.lt_of_lt_of_le h.1 hb.size,fun j hj=>by
  obtain⟨s,h1,h2⟩:=h.2 j hj;exact⟨s,(hb.cell (p:=⟨0,j,none⟩) h.1).trans h1,h2⟩⟩
theorem yX (n:Int) (hn:wfI n) (w:World) (hw:qz w):Calls Tryz.prog 32 #[.int .i64 n] w fun e w'=>∃s:ByteArray,e=.returned (.string s)/\zf s=true/\s.size<=8/\w=w':=by
 have HW:=zd hw;clear hw;go_enter Tryz.func32,Tryz.ntmps32;go_wp2_with fail;refine (XY n hn 6 (by omega) (by omega) w).mono ?_;rintro e w1 ⟨k,rfl,hk,rfl⟩;obtain⟨s,h1,h2,h3⟩:=HW.out.2 k (by omega);have HI:=zd h2;clear h2;go_wp2_with fail;go_ret;exact⟨s,rfl,HI.out,h3,rfl⟩
end Go.Proofs.YtedpiamfpbdhoaaGreatDoor
