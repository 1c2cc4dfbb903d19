import Derived.Test.YtedpiamfpbdhoaaGreatDoorJFg7
import Derived.Lib.ItoaNum
set_option maxHeartbeats 40000000
set_option maxRecDepth 100000
namespace Go.Proofs.YtedpiamfpbdhoaaGreatDoor
open Go.RowKit
theorem vb {W w1:World} (hb:Below W.heap.size W w1):∀b o,b<W.heap.size->w1.cell? ⟨b,o,none⟩=W.cell? ⟨b,o,none⟩:=fun b o h=>hb.cell (p:=⟨b,o,none⟩) h
theorem zax:∀(m d:Nat),10<d+m->∀(S:Nat->Prop) (t:Ex) (v:Value) (w:World),d<1000->(∀b,S b->b<w.heap.size)->yC S w t v->
  Calls Tryz.prog 137 #[v,.int .i64 d] w fun e w'=>e=.returned (.int .i64 (zx t d))/\Below w.heap.size w w':=by
 intro m
 induction m with
 |zero=>
  rintro d hd S t v w hd1 hS ⟨k,n,f,s,va,rfl,xs,rfl,hf,hs,hsl⟩;have hd':(10:Int)<(d:Int):=by omega
  have HF:Hid (zx (.mk k n f s xs) d=1):=by show _=_; rw[zx,if_pos (by omega)]
  obtain⟨a,c,cap,rfl⟩:=hsl.slice;clear hsl;go_enter Tryz.func137,Tryz.ntmps137;go_wp2_with fail;go_ret;exact⟨by rw[HF.out]; rfl,((Below.refl _ _).alloc (Nat.le_refl _) _).alloc (by simp) _⟩
 |succ m ih=>
  rintro d hd S t v w hd1 hS ⟨k,n,f,s,va,rfl,xs,rfl,hf,hs,hsl⟩;have HIH:=zd ih;clear ih
  by_cases hd0:10<d
  ·have hd':(10:Int)<(d:Int):=by omega
   have HF:Hid (zx (.mk k n f s xs) d=1):=by show _=_; rw[zx,if_pos (by omega)]
   obtain⟨a,c,cap,rfl⟩:=hsl.slice;clear hsl;go_enter Tryz.func137,Tryz.ntmps137;go_wp2_with fail;go_ret;exact⟨by rw[HF.out]; rfl,((Below.refl _ _).alloc (Nat.le_refl _) _).alloc (by simp) _⟩
  have hd':¬(10:Int)<(d:Int):=by omega
  obtain⟨a,cap,rfl,⟨hlen,hlenC⟩,hrest⟩:=hsl;have HSL:Hid (ze S (yB S w) 5 xs (.slice a xs.length cap)):=⟨a,cap,rfl,⟨hlen,hlenC⟩,hrest⟩
  unfold maxLen at hlen;clear hrest;have HB:Hid (Below w.heap.size w ((w.alloc (.cells #[.int .i64 k,.int .i64 n,.string f,.string s,.slice a xs.length cap] 70)).alloc (.cells #[.int .i64 d] 3))):=((Below.refl _ _).alloc (Nat.le_refl _) _).alloc (by simp) _
  cases hk:qj k 1 7
  ·have HF:Hid (zx (.mk k n f s xs) d=3):=by show _=_; rw[zx,if_neg hd0,if_pos hk]
   have hk2:k<1\/7<k:=by simp[qj] at hk; omega
   clear hk HSL
   rcases hk2 with hk2|hk2
   ·go_enter Tryz.func137,Tryz.ntmps137
    go_wp2_with fail;go_ret;exact⟨by rw[HF.out]; rfl,HB.out⟩
   ·have hk3:¬k<1:=by omega
    go_enter Tryz.func137,Tryz.ntmps137;go_wp2_with fail;go_ret;exact⟨by rw[HF.out]; rfl,HB.out⟩
  have hk2:¬k<1:=by simp[qj] at hk; omega
  have hk3:¬7<k:=by simp[qj] at hk; omega
  by_cases h8:8<xs.length
  ·have HF:Hid (zx (.mk k n f s xs) d=1):=by show _=_; rw[zx,if_neg hd0,if_neg (by rw[hk]; simp),if_pos h8]
   have h8':(8:Int)<(xs.length:Int):=by omega
   clear hk HSL;go_enter Tryz.func137,Tryz.ntmps137;go_wp2_with fail;go_ret;exact⟨by rw[HF.out]; rfl,HB.out⟩
  have h8':¬(8:Int)<(xs.length:Int):=by omega
  have HT:Hid (zx (.mk k n f s xs) d=if (n≠0/\k≠1)\/xl k f s=false\/qe k xs.length=false then 4 else if qj n 0 999999=false then 2 else xO xs (d+1)):=by
   show _=_; rw[zx,if_neg hd0,if_neg (by rw[hk]; simp),if_neg h8]
  clear hk
  by_cases h4:n≠0/\k≠1
  ·have HF:=zd (HT.out.trans (if_pos (Or.inl h4)))
   have hA:(n != 0)=true:=bne_iff_ne.2 h4.1;have hA':(k != 1)=true:=bne_iff_ne.2 h4.2;clear h4 HT HSL;go_enter Tryz.func137,Tryz.ntmps137;go_wp2_with fail;go_ret;exact⟨by rw[HF.out]; rfl,HB.out⟩
  have hcase:(n != 0)=false\/((n != 0)=true/\(k != 1)=false):=by
   by_cases h:n=0
   ·exact Or.inl (by simp[h])
   ·refine Or.inr ⟨bne_iff_ne.2 h,?_⟩
    have:k=1:=by
     by_cases hk:k=1
     ·exact hk
     ·exact absurd ⟨h,hk⟩ h4
    simp[this]
  have hef:=z8
  cases hnf:xl k f s
  ·have HF:=zd (HT.out.trans (if_pos (Or.inr (Or.inl hnf))))
   clear HT HSL h4
   rcases hcase with hA|⟨hA,hA'⟩
   all_goals
    go_enter Tryz.func137,Tryz.ntmps137;go_wp2_with fail;refine (Zp k n f s _ hf hs _).mono ?_;rintro e w1 ⟨rfl,hb⟩;rw[hnf]
    go_wp2
    go_ret;exact⟨by rw[HF.out]; rfl,HB.out.trans (hb.mono (by simp; omega))⟩
  cases hcf:qe k xs.length
  ·have HF:=zd (HT.out.trans (if_pos (Or.inr (Or.inr hcf))))
   clear HT HSL h4
   rcases hcase with hA|⟨hA,hA'⟩
   all_goals
    go_enter Tryz.func137,Tryz.ntmps137;go_wp2_with fail;refine (Zp k n f s _ hf hs _).mono ?_;rintro e w1 ⟨rfl,hb⟩;rw[hnf];have hc:=vb hb;have HB1:=zd (HB.out.trans (hb.mono (by simp; omega)));clear hb;go_wp2_with fail;refine (Qq k n f s a xs.length cap _).mono ?_;rintro e w2 ⟨rfl,hb2⟩;rw[hcf]
    go_wp2
    go_ret;exact⟨by rw[HF.out]; rfl,HB1.out.trans (hb2.mono HB1.out.size)⟩
  have HT2:=zd (HT.out.trans (if_neg (by rintro (h|h|h); exact h4 h; rw[hnf] at h; cases h; rw[hcf] at h; cases h)));clear HT h4
  cases hr:qj n 0 999999
  ·have HF:=zd (HT2.out.trans (if_pos hr))
   have hr2:n<0\/(¬n<0/\999999<n):=by simp[qj] at hr; omega
   clear HT2 HSL hr
   rcases hcase with hA|⟨hA,hA'⟩ <;> rcases hr2 with hr2|⟨hr3,hr2⟩
   all_goals
    go_enter Tryz.func137,Tryz.ntmps137;go_wp2_with fail;refine (Zp k n f s _ hf hs _).mono ?_;rintro e w1 ⟨rfl,hb⟩;rw[hnf];have hc:=vb hb;have HB1:=zd (HB.out.trans (hb.mono (by simp; omega)));have hs1:w.heap.size+2<=w1.heap.size:=by have:=hb.size; simp at this; omega
    have hz1:w.heap.size<w1.heap.size:=by omega
    clear hb;go_wp2_with fail;refine (Qq k n f s a xs.length cap _).mono ?_;rintro e w2 ⟨rfl,hb2⟩;rw[hcf];have hc2:=vb hb2;have HB2:=zd (HB1.out.trans (hb2.mono HB1.out.size));clear hb2
    go_wp2
    go_ret;exact⟨by rw[HF.out]; rfl,HB2.out⟩
  have HF:=zd (HT2.out.trans ((if_neg (by rw[hr]; simp)).trans (ki xs (d+1))));have hr2:¬n<0:=by simp[qj] at hr; omega
  have hr3:¬999999<n:=by simp[qj] at hr; omega
  clear HT2 hr
  rcases hcase with hA|⟨hA,hA'⟩
  all_goals
   go_enter Tryz.func137,Tryz.ntmps137;go_wp2_with fail;refine (Zp k n f s _ hf hs _).mono ?_;rintro e w1 ⟨rfl,hb⟩;rw[hnf];have hc:=vb hb;have HB1:=zd (HB.out.trans (hb.mono (by simp; omega)));have hs1:w.heap.size+2<=w1.heap.size:=by have:=hb.size; simp at this; omega
   have hz1:w.heap.size<w1.heap.size:=by omega
   clear hb;go_wp2_with fail;refine (Qq k n f s a xs.length cap _).mono ?_;rintro e w2 ⟨rfl,hb2⟩;rw[hcf];have hc2:=vb hb2;have HB2:=zd (HB1.out.trans (hb2.mono HB1.out.size));have hs2:w.heap.size+2<=w2.heap.size:=by have:=hb2.size; omega
   have hcd:w2.cell? ⟨w.heap.size+1,0,none⟩=some (.int .i64 d):=(hc2 _ _ (by omega)).trans ((hc _ _ (by simp)).trans (World.cell?_alloc_at _ _ _ _ (by simp)));have HCD:=zd hcd;clear hb2 hcd;go_wp2_with fail;refine (zfU 212 #[.pointer (some ⟨w.heap.size+1,0,none⟩)] (enters_of Tryz.func212 (by kernel_rfl) rfl) (fun t=>zx t (d+1)) S xs _ w2 (fun b h=>by have:=hS b h; omega) (jA (Keeps.below HB2.out hS) HSL.out) ?_).mono ?_
   ·clear hc hc2
    rintro t ht W u hbW ⟨k',n',f',s',va',rfl,hcs⟩;have hcd:W.cell? ⟨w.heap.size+1,0,none⟩=some (.int .i64 d):=(hbW.cell (by show w.heap.size+1<w2.heap.size; omega)).trans HCD.out;have hne:w.heap.size+1<W.heap.size:=by have:=hbW.size; omega
    obtain⟨va1,va2,va3,rfl⟩:=hcs.slice;have hws:=hbW.size;have hSW:∀b,S b->b<W.heap.size:=fun b h=>by have:=hS b h; omega
    have HC:=zd (hcs.keep (Keeps.below ((Below.refl W.heap.size W).alloc (Nat.le_refl _) (.cells #[.int .i64 k',.int .i64 n',.string f',.string s',.slice va1 va2 va3] 70)) hSW));have HBW:Hid (Below W.heap.size W (W.alloc (.cells #[.int .i64 k',.int .i64 n',.string f',.string s',.slice va1 va2 va3] 70))):=(Below.refl _ _).alloc (Nat.le_refl _) _;have cI:=HIH.out (d+1) (by omega) S t _ _ (by omega) (fun b h=>by have:=hSW b h; simp; omega) ⟨_,_,_,_,_,rfl,HC.out⟩;have en:((d+1:Nat):Int)=(d:Int)+1:=by omega
    rw[en] at cI;clear HIH HC hcs;go_enter Tryz.func212,Tryz.ntmps212;go_wp2_with fail;refine cI.mono ?_;rintro e w3 ⟨rfl,hb3⟩
    go_wp2
    go_ret;exact⟨rfl,HBW.out.trans (hb3.mono (by simp))⟩
   ·rintro e w3 ⟨rfl,hb3⟩
    go_wp2
    go_ret;exact⟨by rw[HF.out]; rfl,HB2.out.trans (hb3.mono (by omega))⟩
theorem QS (s:ByteArray) (hs:s.size<=maxLen) (w:World):Calls Tryz.prog 76 #[.string s] w fun e w'=>e=.returned (.int .i64 (qx s))/\Below w.heap.size w w':=by
 have HT:Hid (qx s=if zf s=true then 0 else 4):=rfl
 cases h:zf s
 ·rw[if_neg (by rw[h]; simp)] at HT
  go_enter Tryz.func76,Tryz.ntmps76;go_wp2_with fail;refine (zX s hs _).mono ?_;rintro e w1 ⟨rfl,hb⟩;rw[h]
  go_wp2
  go_ret;exact⟨by rw[HT.out]; rfl,hb⟩
 ·rw[if_pos h] at HT
  go_enter Tryz.func76,Tryz.ntmps76;go_wp2_with fail;refine (zX s hs _).mono ?_;rintro e w1 ⟨rfl,hb⟩;rw[h]
  go_wp2
  go_ret;exact⟨by rw[HT.out]; rfl,hb⟩
theorem js (S:Nat->Prop) (x:Fd) (v:Value) (w:World) (hS:∀b,S b->b<w.heap.size) (hx:XQ S w x v) :
  Calls Tryz.prog 78 #[v] w fun e w'=>e=.returned (.int .i64 (zF x))/\Below w.heap.size w w':=by
 obtain⟨k,f,n,va,rfl,hsz,hcs⟩:=hx;obtain⟨va1,va2,va3,rfl⟩:=hcs.slice;have HT:Hid (zF x=if zf x.name=true then zl x.is 1 else 4):=rfl;have HB:Hid (Below w.heap.size w (w.alloc (.cells #[.string x.name,.int .i64 k,.string f,.string n,.slice va1 va2 va3] 86))):=(Below.refl _ _).alloc (Nat.le_refl _) _
 cases h:zf x.name
 ·rw[if_neg (by rw[h]; simp)] at HT
  go_enter Tryz.func78,Tryz.ntmps78;go_wp2_with fail;refine (zX x.name hsz _).mono ?_;rintro e w1 ⟨rfl,hb⟩;rw[h]
  go_wp2
  go_ret;exact⟨by rw[HT.out]; rfl,HB.out.trans (hb.mono (by simp))⟩
 ·rw[if_pos h] at HT
  have HC:=zd hcs;clear hcs;go_enter Tryz.func78,Tryz.ntmps78;go_wp2_with fail;refine (zX x.name hsz _).mono ?_;rintro e w1 ⟨rfl,hb⟩;rw[h];have hc:=vb hb;have HB1:=zd (HB.out.trans (hb.mono (by simp)));clear hb;go_wp2_with fail;refine (Qr 10 1 (by omega) S x.is _ w1 (by omega) (fun b h=>Nat.lt_of_lt_of_le (hS b h) HB1.out.size) ⟨k,f,n,_,rfl,HC.out.keep (Keeps.below HB1.out hS)⟩).mono ?_;rintro e w2 ⟨rfl,hb2⟩
  go_wp2
  go_ret;exact⟨by rw[HT.out]; rfl,HB1.out.trans (hb2.mono HB1.out.size)⟩
theorem zR {S:Nat->Prop} {w W:World} (hS:∀b,S b->b<w.heap.size) (hb:Below w.heap.size w W):∀b,S b->b<W.heap.size:=fun b h=>Nat.lt_of_lt_of_le (hS b h) hb.size
theorem zay (S:Nat->Prop) (x:Fu) (v:Value) (w:World) (hS:∀b,S b->b<w.heap.size) (hx:Xo S w x v) :
  Calls Tryz.prog 80 #[v] w fun e w'=>e=.returned (.int .i64 (xw x))/\Below w.heap.size w w':=by
 obtain⟨vp,k,f,n,va,k',n',f',s',va',rfl,hsz,hsz1,hps,hcs,hce⟩:=hx;obtain⟨va1,va2,va3,rfl⟩:=hcs.slice;obtain⟨ve1,ve2,ve3,rfl⟩:=hce.slice;obtain⟨vp1,vp3,rfl,⟨hplen,hplenC⟩,hprest⟩:=hps;have HP:Hid (ze S (qO S w) 5 x.params (.slice vp1 x.params.length vp3)):=⟨vp1,vp3,rfl,⟨hplen,hplenC⟩,hprest⟩
 unfold maxLen at hplen;have HC:=zd hcs;have HE:=zd hce;clear hcs hce hprest;have HT:Hid (xw x=if zf x.name=false\/zD x.var=false then 4 else if 8<x.params.length then 1 else
  if zt zF x.params≠0 then zt zF x.params else if zl x.result 1≠0 then zl x.result 1 else zx x.body 1):=rfl
 have HB:Hid (Below w.heap.size w (w.alloc (.cells #[.string x.name,.string x.var,.slice vp1 x.params.length vp3,.int .i64 k,.string f,.string n,.slice va1 va2 va3,.int .i64 k',.int .i64 n',.string f',.string s',.slice ve1 ve2 ve3] 72))):=(Below.refl _ _).alloc (Nat.le_refl _) _
 cases h:zf x.name
 ·rw[if_pos (Or.inl h)] at HT
  go_enter Tryz.func80,Tryz.ntmps80;go_wp2_with fail;refine (zX x.name hsz _).mono ?_;rintro e w1 ⟨rfl,hb⟩;rw[h]
  go_wp2
  go_ret;exact⟨by rw[HT.out]; rfl,HB.out.trans (hb.mono (by simp))⟩
 cases h2:zD x.var
 ·rw[if_pos (Or.inr h2)] at HT
  go_enter Tryz.func80,Tryz.ntmps80;go_wp2_with fail;refine (zX x.name hsz _).mono ?_;rintro e w1 ⟨rfl,hb⟩;rw[h];have hc:=vb hb;have HB1:=zd (HB.out.trans (hb.mono (by simp)));clear hb;go_wp2_with fail;refine (yh x.var hsz1 _).mono ?_;rintro e w2 ⟨rfl,hb2⟩;rw[h2]
  go_wp2
  go_ret;exact⟨by rw[HT.out]; rfl,HB1.out.trans (hb2.mono HB1.out.size)⟩
 rw[if_neg (by rw[h,h2]; simp)] at HT
 by_cases h8:8<x.params.length
 ·rw[if_pos h8] at HT
  have h8':(8:Int)<(x.params.length:Int):=by omega
  go_enter Tryz.func80,Tryz.ntmps80;go_wp2_with fail;refine (zX x.name hsz _).mono ?_;rintro e w1 ⟨rfl,hb⟩;rw[h];have hc:=vb hb;have hz1:w.heap.size<w1.heap.size:=by have:=hb.size; simp at this; omega
  have HB1:=zd (HB.out.trans (hb.mono (by simp)));clear hb;go_wp2_with fail;refine (yh x.var hsz1 _).mono ?_;rintro e w2 ⟨rfl,hb2⟩;rw[h2];have hc2:=vb hb2
  go_wp2
  go_ret;exact⟨by rw[HT.out]; rfl,HB1.out.trans (hb2.mono HB1.out.size)⟩
 have h8':¬(8:Int)<(x.params.length:Int):=by omega
 rw[if_neg h8] at HT;clear h8
 by_cases hp:zt zF x.params=0
 rotate_left
 ·rw[if_pos hp] at HT
  have hp':(zt zF x.params != 0)=true:=bne_iff_ne.2 hp;clear hp;go_enter Tryz.func80,Tryz.ntmps80;go_wp2_with fail;refine (zX x.name hsz _).mono ?_;rintro e w1 ⟨rfl,hb⟩;rw[h];have hc:=vb hb;have hz1:w.heap.size<w1.heap.size:=by have:=hb.size; simp at this; omega
  have HB1:=zd (HB.out.trans (hb.mono (by simp)));clear hb;go_wp2_with fail;refine (yh x.var hsz1 _).mono ?_;rintro e w2 ⟨rfl,hb2⟩;rw[h2];have hc2:=vb hb2;have HB2:=zd (HB1.out.trans (hb2.mono HB1.out.size));clear hb2;go_wp2_with fail;refine (QM 78 #[] (enters_of Tryz.func78 (by kernel_rfl) rfl) zF S x.params _ w2 (zR hS HB2.out) (zP (Keeps.below HB2.out hS) HP.out)
   (fun t _ W u hbW hu=>js S t u W (zR (zR hS HB2.out) hbW) hu)).mono ?_
  rintro e w3 ⟨rfl,hb3⟩
  go_wp2
  go_ret;exact⟨by rw[HT.out]; rfl,HB2.out.trans (hb3.mono HB2.out.size)⟩
 rw[if_neg (by rw[hp]; simp)] at HT;have hp':(zt zF x.params != 0)=false:=by rw[hp]; rfl
 by_cases hr:zl x.result 1=0
 rotate_left
 ·rw[if_pos hr] at HT
  have hr':(zl x.result 1 != 0)=true:=bne_iff_ne.2 hr;clear hr hp;go_enter Tryz.func80,Tryz.ntmps80;go_wp2_with fail;refine (zX x.name hsz _).mono ?_;rintro e w1 ⟨rfl,hb⟩;rw[h];have hc:=vb hb;have hz1:w.heap.size<w1.heap.size:=by have:=hb.size; simp at this; omega
  have HB1:=zd (HB.out.trans (hb.mono (by simp)));clear hb;go_wp2_with fail;refine (yh x.var hsz1 _).mono ?_;rintro e w2 ⟨rfl,hb2⟩;rw[h2];have hc2:=vb hb2;have hz2:w.heap.size<w2.heap.size:=Nat.lt_of_lt_of_le hz1 hb2.size;have HB2:=zd (HB1.out.trans (hb2.mono HB1.out.size));clear hb2;go_wp2_with fail;refine (QM 78 #[] (enters_of Tryz.func78 (by kernel_rfl) rfl) zF S x.params _ w2 (zR hS HB2.out) (zP (Keeps.below HB2.out hS) HP.out)
   (fun t _ W u hbW hu=>js S t u W (zR (zR hS HB2.out) hbW) hu)).mono ?_
  rintro e w3 ⟨rfl,hb3⟩;have hc3:=vb hb3;have HB3:=zd (HB2.out.trans (hb3.mono HB2.out.size));clear hb3;go_wp2_with fail;refine (Qr 10 1 (by omega) S x.result _ w3 (by omega) (zR hS HB3.out) ⟨k,f,n,_,rfl,HC.out.keep (Keeps.below HB3.out hS)⟩).mono ?_;rintro e w4 ⟨rfl,hb4⟩
  go_wp2
  go_ret;exact⟨by rw[HT.out]; rfl,HB3.out.trans (hb4.mono HB3.out.size)⟩
 rw[if_neg (by rw[hr]; simp)] at HT;have hr':(zl x.result 1 != 0)=false:=by rw[hr]; rfl
 clear hr hp;go_enter Tryz.func80,Tryz.ntmps80;go_wp2_with fail;refine (zX x.name hsz _).mono ?_;rintro e w1 ⟨rfl,hb⟩;rw[h];have hc:=vb hb;have hz1:w.heap.size<w1.heap.size:=by have:=hb.size; simp at this; omega
 have HB1:=zd (HB.out.trans (hb.mono (by simp)));clear hb;go_wp2_with fail;refine (yh x.var hsz1 _).mono ?_;rintro e w2 ⟨rfl,hb2⟩;rw[h2];have hc2:=vb hb2;have hz2:w.heap.size<w2.heap.size:=Nat.lt_of_lt_of_le hz1 hb2.size;have HB2:=zd (HB1.out.trans (hb2.mono HB1.out.size));clear hb2;go_wp2_with fail;refine (QM 78 #[] (enters_of Tryz.func78 (by kernel_rfl) rfl) zF S x.params _ w2 (zR hS HB2.out) (zP (Keeps.below HB2.out hS) HP.out)
  (fun t _ W u hbW hu=>js S t u W (zR (zR hS HB2.out) hbW) hu)).mono ?_
 rintro e w3 ⟨rfl,hb3⟩;have hc3:=vb hb3;have hz3:w.heap.size<w3.heap.size:=Nat.lt_of_lt_of_le hz2 hb3.size;have HB3:=zd (HB2.out.trans (hb3.mono HB2.out.size));clear hb3;go_wp2_with fail;refine (Qr 10 1 (by omega) S x.result _ w3 (by omega) (zR hS HB3.out) ⟨k,f,n,_,rfl,HC.out.keep (Keeps.below HB3.out hS)⟩).mono ?_;rintro e w4 ⟨rfl,hb4⟩;have hc4:=vb hb4;have HB4:=zd (HB3.out.trans (hb4.mono HB3.out.size));clear hb4;go_wp2_with fail;refine (zax 10 1 (by omega) S x.body _ w4 (by omega) (zR hS HB4.out) ⟨k',n',f',s',_,rfl,HE.out.keep (Keeps.below HB4.out hS)⟩).mono ?_;rintro e w5 ⟨rfl,hb5⟩
 go_wp2
 go_ret;exact⟨by rw[HT.out]; rfl,HB4.out.trans (hb5.mono HB4.out.size)⟩
theorem Yp (S:Nat->Prop) (x:Mo) (v:Value) (w:World) (hS:∀b,S b->b<w.heap.size) (hx:qT S w x v) :
  Calls Tryz.prog 27 #[v] w fun e w'=>e=.returned (.int .i64 (zI x))/\Below w.heap.size w w':=by
 obtain⟨vu,vt,vf,rfl,hu,ht,hf⟩:=hx;obtain⟨u1,u3,rfl,⟨hul,hulC⟩,hur⟩:=hu;obtain⟨t1,t3,rfl,⟨htl,htlC⟩,htr⟩:=ht;obtain⟨f1,f3,rfl,⟨hfl,hflC⟩,hfr⟩:=hf;have HU:Hid (ze S (zG w) 1 x.uses (.slice u1 x.uses.length u3)):=⟨u1,u3,rfl,⟨hul,hulC⟩,hur⟩
 have HTy:Hid (ze S (qO S w) 5 x.types (.slice t1 x.types.length t3)):=⟨t1,t3,rfl,⟨htl,htlC⟩,htr⟩
 have HFu:Hid (ze S (kG S w) 12 x.funcs (.slice f1 x.funcs.length f3)):=⟨f1,f3,rfl,⟨hfl,hflC⟩,hfr⟩
 clear hur htr hfr hul htl hfl;have HT:Hid (zI x=if 24<wrap64 (wrap64 ((x.uses.length:Int)+x.types.length)+x.funcs.length) then 1 else
  if zt qx x.uses≠0 then zt qx x.uses else if zt zF x.types≠0 then zt zF x.types else zt xw x.funcs):=rfl
 have HB:Hid (Below w.heap.size w (w.alloc (.cells #[.slice u1 x.uses.length u3,.slice t1 x.types.length t3,.slice f1 x.funcs.length f3] 41))):=(Below.refl _ _).alloc (Nat.le_refl _) _
 by_cases h24:24<wrap64 (wrap64 ((x.uses.length:Int)+x.types.length)+x.funcs.length)
 ·rw[if_pos h24] at HT
  go_enter Tryz.func27,Tryz.ntmps27;go_wp2_with fail;go_ret;exact⟨by rw[HT.out]; rfl,HB.out⟩
 rw[if_neg h24] at HT
 by_cases hp:zt qx x.uses=0
 rotate_left
 ·rw[if_pos hp] at HT
  have hp':(zt qx x.uses != 0)=true:=bne_iff_ne.2 hp;clear hp;go_enter Tryz.func27,Tryz.ntmps27;go_wp2_with fail;refine (Yz 76 #[] (enters_of Tryz.func76 (by kernel_rfl) rfl) qx S x.uses _ _ (zR hS HB.out) (zU (Keeps.below HB.out hS) HU.out) (fun t _ W u hbW hu=>by obtain⟨rfl,hz⟩:=hu; exact QS t hz W)).mono ?_;rintro e w1 ⟨rfl,hb⟩
  go_wp2
  go_ret;exact⟨by rw[HT.out]; rfl,HB.out.trans (hb.mono (by simp))⟩
 rw[if_neg (by rw[hp]; simp)] at HT;have hp':(zt qx x.uses != 0)=false:=by rw[hp]; rfl
 clear hp
 by_cases hq:zt zF x.types=0
 rotate_left
 ·rw[if_pos hq] at HT
  have hq':(zt zF x.types != 0)=true:=bne_iff_ne.2 hq;clear hq;go_enter Tryz.func27,Tryz.ntmps27;go_wp2_with fail;refine (Yz 76 #[] (enters_of Tryz.func76 (by kernel_rfl) rfl) qx S x.uses _ _ (zR hS HB.out) (zU (Keeps.below HB.out hS) HU.out) (fun t _ W u hbW hu=>by obtain⟨rfl,hz⟩:=hu; exact QS t hz W)).mono ?_;rintro e w1 ⟨rfl,hb⟩;have hc:=vb hb;have HB1:=zd (HB.out.trans (hb.mono (by simp)));clear hb;go_wp2_with fail;refine (QM 78 #[] (enters_of Tryz.func78 (by kernel_rfl) rfl) zF S x.types _ w1 (zR hS HB1.out) (zP (Keeps.below HB1.out hS) HTy.out)
   (fun t _ W u hbW hu=>js S t u W (zR (zR hS HB1.out) hbW) hu)).mono ?_
  rintro e w2 ⟨rfl,hb2⟩
  go_wp2
  go_ret;exact⟨by rw[HT.out]; rfl,HB1.out.trans (hb2.mono HB1.out.size)⟩
 rw[if_neg (by rw[hq]; simp)] at HT;have hq':(zt zF x.types != 0)=false:=by rw[hq]; rfl
 clear hq;go_enter Tryz.func27,Tryz.ntmps27;go_wp2_with fail;refine (Yz 76 #[] (enters_of Tryz.func76 (by kernel_rfl) rfl) qx S x.uses _ _ (zR hS HB.out) (zU (Keeps.below HB.out hS) HU.out) (fun t _ W u hbW hu=>by obtain⟨rfl,hz⟩:=hu; exact QS t hz W)).mono ?_;rintro e w1 ⟨rfl,hb⟩;have hc:=vb hb;have hz1:w.heap.size<w1.heap.size:=by have:=hb.size; simp at this; omega
 have HB1:=zd (HB.out.trans (hb.mono (by simp)));clear hb;go_wp2_with fail;refine (QM 78 #[] (enters_of Tryz.func78 (by kernel_rfl) rfl) zF S x.types _ w1 (zR hS HB1.out) (zP (Keeps.below HB1.out hS) HTy.out)
  (fun t _ W u hbW hu=>js S t u W (zR (zR hS HB1.out) hbW) hu)).mono ?_
 rintro e w2 ⟨rfl,hb2⟩;have hc2:=vb hb2;have HB2:=zd (HB1.out.trans (hb2.mono HB1.out.size));clear hb2;go_wp2_with fail;refine (zfV 80 #[] (enters_of Tryz.func80 (by kernel_rfl) rfl) xw S x.funcs _ w2 (zR hS HB2.out) (Q8 (Keeps.below HB2.out hS) HFu.out)
  (fun t _ W u hbW hu=>zay S t u W (zR (zR hS HB2.out) hbW) hu)).mono ?_
 rintro e w3 ⟨rfl,hb3⟩
 go_wp2
 go_ret;exact⟨by rw[HT.out]; rfl,HB2.out.trans (hb3.mono HB2.out.size)⟩
def yV:Mo:=⟨[],[],[]⟩
def vC:List ByteArray->Mo->Except Int Mo
 |[],m=>.ok m
 |s::r,m=>match xK s with
  |.error e=>.error e
  |.ok d=>vC r (kl m d)
def xX (s:ByteArray):Int:=if 1500<s.size then 1 else match vC (yU s) yV with
 |.error e=>e
 |.ok m=>zI m
def zA (s:ByteArray):Mo:=if 1500<s.size then yV else match vC (yU s) yV with
 |.error _=>yV
 |.ok m=>if zI m=0 then m else yV
theorem J5 {S:Nat->Prop} {w:World}:qT S w yV (.agg #[.slice none 0 0,.slice none 0 0,.slice none 0 0]):=⟨_,_,_,rfl,yo,yo,yo⟩
theorem zcJ {m:Mo} {d:Line} {k:Nat} (h:m.uses.length<=k/\m.types.length<=k/\m.funcs.length<=k):(kl m d).uses.length<=k+1/\(kl m d).types.length<=k+1/\(kl m d).funcs.length<=k+1:=by
 cases d <;> simp[kl] <;> omega
theorem Jv (s:ByteArray):(yU s).length<=s.size+1:=by
 have h1:1<=(⟨#[10]⟩:ByteArray).size:=Nat.le_refl _;have hle:=Lib.countB_le ⟨#[10]⟩ h1 s.size s (Nat.le_refl _);have hlen:=Lib.splitB_all ⟨#[10]⟩ h1 0 _ s rfl;unfold yU;omega
theorem YI {w:World} {b:Nat} {x y z:Value} {T:TypeId} (h:w.heap[b]? = some (.cells #[x,y,z] T (0,0))) (u v t:Value) :
  (((w.setCell ⟨b,0,none⟩ u).setCell ⟨b,1,none⟩ v).setCell ⟨b,2,none⟩ t).cell? ⟨b,0,none⟩=some u/\(((w.setCell ⟨b,0,none⟩ u).setCell ⟨b,1,none⟩ v).setCell ⟨b,2,none⟩ t).cell? ⟨b,1,none⟩=some v/\(((w.setCell ⟨b,0,none⟩ u).setCell ⟨b,1,none⟩ v).setCell ⟨b,2,none⟩ t).cell? ⟨b,2,none⟩=some t:=by
 have h3:=vM (vM (vM h 0 u) 1 v) 2 t;refine⟨?_,?_,?_⟩ <;> (rw[cell_of_row _ b _ _ _ _ h3]; rfl)
def zg8 (W:World) (B:Nat) (m:Mo) (v:Value):Prop:=∃u t f,v=.agg #[u,t,f]/\W.ownsRow B 9 1 u m.uses.length (m.uses.map Value.string)
theorem VX {W:World} {B:Nat}:zg8 W B yV (.agg #[.slice none 0 0,.slice none 0 0,.slice none 0 0]):=⟨_,_,_,rfl,World.ownsRow_nil _ _ _ _⟩
theorem zih {base n1:Nat} {S:Nat->Prop} {xs:List ByteArray} {v:Value} {ys:List Value} {W:World} (h:RowIs StC 9 1 base n1 S xs v ys W):W.ownsRow base 9 1 v xs.length (xs.map Value.string):=by
 have e:ys=xs.map Value.string:=by
  apply List.ext_getElem?
  intro j
  by_cases hj:j<xs.length
  ·obtain⟨cs,_,h2,rfl,_⟩:=h.items j hj
   have:=h2 0 (by omega);rw[Nat.mul_one,Nat.add_zero] at this;rw[this];simp[hj]
  ·have hl:ys.length=xs.length * 1:=h.own.1
   rw[List.getElem?_eq_none (by omega),List.getElem?_eq_none (by rw[List.length_map]; omega)]
 rw[<- e];exact h.own
theorem YJ {W W':World} {B B' n:Nat} {v:Value} {ys:List Value} (h:W.ownsRow B 9 1 v n ys) (hb:Below W.heap.size W W') (hB:B'<=B):W'.ownsRow B' 9 1 v n ys:=by
 obtain⟨hx,⟨hv,hn⟩|⟨g,cap,cur,hv,hg,hh,h1⟩⟩:=h
 ·exact⟨hx,Or.inl ⟨hv,hn⟩⟩
 ·refine⟨hx,Or.inr ⟨g,cap,cur,hv,Nat.le_trans hB hg,?_,h1⟩⟩
  rw[hb.block g ?_]
  ·exact hh
  ·rcases Nat.lt_or_ge g W.heap.size with h|h
   ·exact h
   ·rw[Array.getElem?_eq_none h] at hh
    cases hh
theorem KK (s:ByteArray) (w:World):Calls Tryz.prog 18 #[.string s] w fun e w'=>Below w.heap.size w w'/\∃v,e=.returned (.tuple #[v,.int .i64 (xX s)])/\qT (zm w.heap.size w') w' (zA s) v/\zg8 w' w.heap.size (zA s) v:=by
 by_cases h15:1500<s.size
 ·have h15':(1500:Int)<(s.size:Int):=by omega
  have HE:Hid (xX s=1):=if_pos h15;have HMo:Hid (zA s=yV):=if_pos h15;go_enter Tryz.func18,Tryz.ntmps18;go_wp2_with fail;exact bodyPost_ret (v:=.tuple #[.agg #[.slice none 0 0,.slice none 0 0,.slice none 0 0],.int .i64 1]) (by simp[results,Tryz.results18,go_sem]) rfl
   ⟨(Below.refl _ _).alloc (Nat.le_refl _) _,_,by rw[HE.out],by rw[HMo.out]; exact J5,by rw[HMo.out]; exact VX⟩
 ·have h15':¬(1500:Int)<(s.size:Int):=by omega
  have hll:=Jv s;have hE:xX s=match vC (yU s) yV with
   |.error e=>e
   |.ok m=>zI m:=if_neg h15
  have hMo:zA s=match vC (yU s) yV with
   |.error _=>yV
   |.ok m=>if zI m=0 then m else yV:=if_neg h15
  have HE:=zd hE;have HMo:=zd hMo;have HSp:=zd (zb4 s (by omega) ((w.alloc (.cells #[.slice none 0 0,.slice none 0 0,.slice none 0 0] 41)).alloc (.cells #[.slice none 0 0,.slice none 0 0,.slice none 0 0] 41)));clear hE hMo;generalize yU s=L at *;have hw1:∃w1,((w.alloc (.cells #[.slice none 0 0,.slice none 0 0,.slice none 0 0] 41)).alloc (.cells #[.slice none 0 0,.slice none 0 0,.slice none 0 0] 41)).alloc (.cells (L.map Value.string).toArray 9)=w1/\w1.heap.size=w.heap.size+3/\
    w1.heap[w.heap.size]? = some (.cells #[.slice none 0 0,.slice none 0 0,.slice none 0 0] 41 (0,0))/\w1.heap[w.heap.size+1]? = some (.cells #[.slice none 0 0,.slice none 0 0,.slice none 0 0] 41 (0,0))/\w1.heap[w.heap.size+2]? = some (.cells (L.map Value.string).toArray 9 (0,0))/\Below w.heap.size w w1:=by
   have n0:(w.alloc (.cells #[.slice none 0 0,.slice none 0 0,.slice none 0 0] 41)).heap.size=w.heap.size+1:=by simp
   have n1:((w.alloc (.cells #[.slice none 0 0,.slice none 0 0,.slice none 0 0] 41)).alloc (.cells #[.slice none 0 0,.slice none 0 0,.slice none 0 0] 41)).heap.size=w.heap.size+2:=by simp
   have a0:=heap_alloc_new w (.cells #[.slice none 0 0,.slice none 0 0,.slice none 0 0] 41);have a1:=heap_alloc_new (w.alloc (.cells #[.slice none 0 0,.slice none 0 0,.slice none 0 0] 41)) (.cells #[.slice none 0 0,.slice none 0 0,.slice none 0 0] 41);have a2:=heap_alloc_new ((w.alloc (.cells #[.slice none 0 0,.slice none 0 0,.slice none 0 0] 41)).alloc (.cells #[.slice none 0 0,.slice none 0 0,.slice none 0 0] 41)) (.cells (L.map Value.string).toArray 9);rw[n0] at a1;rw[n1] at a2;refine⟨_,rfl,by simp,?_,?_,a2,(((Below.refl _ _).alloc (Nat.le_refl _) _).alloc (by omega) _).alloc (by omega) _⟩
   ·rw[heap_alloc_old _ _ (by omega),heap_alloc_old _ _ (by omega)]; exact a0
   ·rw[heap_alloc_old _ _ (by omega)]; exact a1
  obtain⟨w1,hwe,hs1,p0,p1,p2,hbel⟩:=hw1;have HP0:=zd p0;have HP2:=zd p2;have HBel:=zd hbel;have HM0:Hid (ModAt (w.heap.size+3) (w.heap.size+1) (w.heap.size+3) yV (.slice none 0 0) (.slice none 0 0) (.slice none 0 0) w1):=
   ⟨p1,by omega,by omega,by omega,⟨[],⟨rfl,Or.inl ⟨rfl,rfl⟩⟩,fun g h=>(by cases h),fun j hj=>absurd hj (by simp[yV])⟩,⟨[],⟨rfl,Or.inl ⟨rfl,rfl⟩⟩,fun g h=>(by cases h),fun j hj=>absurd hj (by simp[yV])⟩,⟨[],⟨rfl,Or.inl ⟨rfl,rfl⟩⟩,fun g h=>(by cases h),fun j hj=>absurd hj (by simp[yV])⟩⟩
  clear p0 p1 p2 hbel;go_enter Tryz.func18,Tryz.ntmps18;go_wp2_with fail;refine HSp.out.mono ?_;rintro e wx ⟨rfl,hwx⟩;rw[hwe] at hwx;subst hwx;clear hwe HSp;go_wp2_with fail
  go_loopw [16] (fun i wr=>∃k:Nat,k<=L.length/\i=.int .i64 k/\∃mo n1 vu vt vf,ModAt (w.heap.size+3) (w.heap.size+1) n1 mo vu vt vf wr/\(mo.uses.length<=k/\mo.types.length<=k/\mo.funcs.length<=k)/\vC (L.drop k) mo=vC L yV/\BelowM (w.heap.size+3) (w.heap.size+1) wx wr) (fun i _=>L.length - (intOf i).toNat)
  case atStart=>exact⟨0,Nat.zero_le _,rfl,yV,_,_,_,_,HM0.out,⟨Nat.le_refl _,Nat.le_refl _,Nat.le_refl _⟩,rfl,⟨rfl,rfl,rfl,Nat.le_refl _,fun _ _ _=>rfl⟩⟩
  case round=>
   obtain⟨k,hk,rfl,mo,n1,vu,vt,vf,hmod,hlens,hra,hbm⟩:=hrel;obtain⟨hl1,hl2,hl3⟩:=hlens;obtain⟨yu,hyu⟩:=hmod.us;obtain⟨yt,hyt⟩:=hmod.ts;obtain⟨yf,hyf⟩:=hmod.fs;obtain⟨au,cu,hvu⟩:=j6 hyu.own;obtain⟨at',ct,hvt⟩:=j6 hyt.own;obtain⟨af,cf,hvf⟩:=j6 hyf.own;subst hvu hvt hvf;clear hyu hyt hyf;have HMod:=zd hmod;have HRa:=zd hra;have HBm:=zd hbm;have HZ:Hid (∀W',BelowM (w.heap.size+3) (w.heap.size+1) wx W'->W'.heap[w.heap.size]? = some (.cells #[.slice none 0 0,.slice none 0 0,.slice none 0 0] 41 (0,0))):=fun W' h=>(h.block w.heap.size (by omega) (by omega)).trans HP0.out
   have HBw:Hid (∀W',BelowM (w.heap.size+3) (w.heap.size+1) wx W'->Below w.heap.size w W'):=fun W' h=>HBel.out.trans ⟨h.os,h.tape,h.output,h.size,fun b hb=>h.block b (by omega) (by omega)⟩
   by_cases hlt:k<L.length
   ·have hlt':(k:Int)<(L.length:Int):=by omega
    have c0:wr.cell? ⟨w.heap.size+1+1,k,none⟩=some (.string (L[k]'hlt)):=by
     rw[cell_of_row wr (w.heap.size+1+1) k _ _ _ ((hbm.block (w.heap.size+2) (by omega) (by omega)).trans HP2.out)];simp[hlt]
    have hd:L.drop k=L[k]'hlt::L.drop (k+1):=List.drop_eq_getElem_cons hlt;rw[hd,vC] at HRa;clear hd hmod hra hbm;generalize L[k]'hlt=ln at *;go_wp2_with fail;refine (zez ln (w.heap.size+3) (w.heap.size+1) n1 mo _ _ _ wr HMod.out (by omega) (by omega) (by omega)).mono ?_;rintro e w' ⟨x,rfl,hbm',⟨er,hr,rfl⟩|⟨d,hr,rfl,n1',vu',vt',vf',hmod'⟩⟩
    ·rw[hr] at HRa
     have hne:=zdp hr;have hne':(x != 0)=true:=by simpa using hne
     have HE1:Hid (xX s=x):=by show _=_; rw[HE.out,<- HRa.out]
     have HM1:Hid (zA s=yV):=by show _=_; rw[HMo.out,<- HRa.out]
     have hbx:=HBm.out.trans hbm';have hz:=HZ.out w' hbx;have HBw1:=zd (HBw.out w' hbx);have HT:=zd (YI hz (.slice none 0 0) (.slice none 0 0) (.slice none 0 0));have z0:w'.cell? ⟨w.heap.size,0,none⟩=some (.slice none 0 0):=by rw[cell_of_row w' _ 0 _ _ _ hz]; rfl
     have z1:w'.cell? ⟨w.heap.size,1,none⟩=some (.slice none 0 0):=by rw[cell_of_row w' _ 1 _ _ _ hz]; rfl
     have z2:w'.cell? ⟨w.heap.size,2,none⟩=some (.slice none 0 0):=by rw[cell_of_row w' _ 2 _ _ _ hz]; rfl
     have f0:=Lib.frozen_of_heap hz 0;have f1:=Lib.frozen_of_heap hz 1;have f2:=Lib.frozen_of_heap hz 2;clear hr hne hbm' hbx hz HRa HE HMo HMod HBm c0;go_wp2_with fail;obtain⟨q0,q1,q2⟩:=HT.out;exact bodyPost_ret (v:=.tuple #[.agg #[.slice none 0 0,.slice none 0 0,.slice none 0 0],.int .i64 x]) (by simp[results,Tryz.results18,go_sem,q0,q1,q2]) rfl
      ⟨((HBw1.out.setCell (p:=⟨w.heap.size,0,none⟩) (Nat.le_refl _) _).setCell (p:=⟨w.heap.size,1,none⟩) (Nat.le_refl _) _).setCell (p:=⟨w.heap.size,2,none⟩) (Nat.le_refl _) _,_,by rw[HE1.out],by rw[HM1.out]; exact J5,by rw[HM1.out]; exact VX⟩
    ·rw[hr] at HRa
     have HMod':=zd hmod';have HBm':=zd (HBm.out.trans hbm');have HL':=zd (zcJ (m:=mo) (d:=d) (k:=k) ⟨hl1,hl2,hl3⟩);clear hr hbm' hmod' HMod HBm c0;go_wp2_with fail;exact⟨⟨k+1,by omega,by go_num,kl mo d,n1',vu',vt',vf',HMod'.out,HL'.out,HRa.out,HBm'.out⟩,by simp[intOf]; omega⟩
   ·have hke:k=L.length:=by omega
    have hnl:¬(k:Int)<(L.length:Int):=by omega
    rw[hke,List.drop_length,vC] at HRa;have hb1:=hmod.mod;have c0:wr.cell? ⟨w.heap.size+1,0,none⟩=some (.slice au mo.uses.length cu):=by rw[cell_of_row wr _ 0 _ _ _ hb1]; rfl
    have c1:wr.cell? ⟨w.heap.size+1,1,none⟩=some (.slice at' mo.types.length ct):=by rw[cell_of_row wr _ 1 _ _ _ hb1]; rfl
    have c2:wr.cell? ⟨w.heap.size+1,2,none⟩=some (.slice af mo.funcs.length cf):=by rw[cell_of_row wr _ 2 _ _ _ hb1]; rfl
    have HIs:=zd (hmod.is (by unfold maxLen; omega) (by unfold maxLen; omega) (by unfold maxLen; omega));have hsz:w.heap.size+3<=wr.heap.size:=by have:=hbm.size; omega
    have HUs:Hid (wr.ownsRow (w.heap.size+3) 9 1 (.slice au mo.uses.length cu) mo.uses.length (mo.uses.map Value.string)):=by obtain⟨yu,hyu⟩:=hmod.us; exact zih hyu
    clear hmod hra hbm hb1;go_wp2_with fail;refine (Yp _ mo _ wr (fun b hb=>hb.2) HIs.out).mono ?_;rintro e w' ⟨rfl,hb⟩;have hbx:=HBm.out.trans (BelowM.of_below hb (by omega));have hz:=HZ.out w' hbx;have HBw1:=zd (HBw.out w' hbx);have HUs2:=zd (YJ HUs.out hb (Nat.le_refl _));have HIs2:=zd (HIs.out.keep (S':=zm (w.heap.size+3) w') ⟨fun b hb'=>hb.block b hb'.2,fun b hb'=>⟨hb'.1,Nat.lt_of_lt_of_le hb'.2 hb.size⟩⟩);have z0:w'.cell? ⟨w.heap.size,0,none⟩=some (.slice none 0 0):=by rw[cell_of_row w' _ 0 _ _ _ hz]; rfl
    have z1:w'.cell? ⟨w.heap.size,1,none⟩=some (.slice none 0 0):=by rw[cell_of_row w' _ 1 _ _ _ hz]; rfl
    have z2:w'.cell? ⟨w.heap.size,2,none⟩=some (.slice none 0 0):=by rw[cell_of_row w' _ 2 _ _ _ hz]; rfl
    have d0:w'.cell? ⟨w.heap.size+1,0,none⟩=some (.slice au mo.uses.length cu):=(hb.cell (p:=⟨w.heap.size+1,0,none⟩) (by show w.heap.size+1<_; omega)).trans c0;have d1:w'.cell? ⟨w.heap.size+1,1,none⟩=some (.slice at' mo.types.length ct):=(hb.cell (p:=⟨w.heap.size+1,1,none⟩) (by show w.heap.size+1<_; omega)).trans c1;have d2:w'.cell? ⟨w.heap.size+1,2,none⟩=some (.slice af mo.funcs.length cf):=(hb.cell (p:=⟨w.heap.size+1,2,none⟩) (by show w.heap.size+1<_; omega)).trans c2;have f0:=Lib.frozen_of_heap hz 0;have f1:=Lib.frozen_of_heap hz 1;have f2:=Lib.frozen_of_heap hz 2;have HEm:Hid (xX s=zI mo):=by show _=_; rw[HE.out,<- HRa.out]
    by_cases hmf:zI mo=0
    ·have HM1:Hid (zA s=mo):=by show _=_; rw[HMo.out,<- HRa.out]; exact if_pos hmf
     have HE1:Hid (xX s=0):=HEm.out.trans hmf;have HT:=zd (YI hz (.slice au mo.uses.length cu) (.slice at' mo.types.length ct) (.slice af mo.funcs.length cf));rw[hmf];clear hbx hz hb c0 c1 c2 HE HMo HMod HBm HRa HIs hmf;go_wp2_with fail;obtain⟨q0,q1,q2⟩:=HT.out;refine bodyPost_ret (v:=.tuple #[.agg #[.slice au mo.uses.length cu,.slice at' mo.types.length ct,.slice af mo.funcs.length cf],.int .i64 0]) (by simp[results,Tryz.results18,go_sem,q0,q1,q2]) rfl
      ⟨((HBw1.out.setCell (p:=⟨w.heap.size,0,none⟩) (Nat.le_refl _) _).setCell (p:=⟨w.heap.size,1,none⟩) (Nat.le_refl _) _).setCell (p:=⟨w.heap.size,2,none⟩) (Nat.le_refl _) _,_,by rw[HE1.out],?_,?_⟩
     ·rw[HM1.out]
      refine HIs2.out.keep ⟨fun b hb'=>?_,fun b hb'=>⟨by have:=hb'.1; omega,?_⟩⟩
      ·have h1:=hb'.1
       rw[Below.heap_setCell _ _ _ _ (by show b≠w.heap.size; omega),Below.heap_setCell _ _ _ _ (by show b≠w.heap.size; omega),Below.heap_setCell _ _ _ _ (by show b≠w.heap.size; omega)]
      ·rw[zT,zT,zT]; exact hb'.2
     ·rw[HM1.out]
      refine⟨_,_,_,rfl,?_⟩;exact YJ (ownsRow_setCell_below (ownsRow_setCell_below (ownsRow_setCell_below HUs2.out (a:=⟨w.heap.size,0,none⟩) (by show w.heap.size<_; omega) _) (a:=⟨w.heap.size,1,none⟩) (by show w.heap.size<_; omega) _) (a:=⟨w.heap.size,2,none⟩) (by show w.heap.size<_; omega) _) (Below.refl _ _) (by omega)
    ·have hne':(zI mo != 0)=true:=by simpa using hmf
     have HM1:Hid (zA s=yV):=by show _=_; rw[HMo.out,<- HRa.out]; exact if_neg hmf
     have HT:=zd (YI hz (.slice none 0 0) (.slice none 0 0) (.slice none 0 0));clear hbx hz hb c0 c1 c2 HE HMo HMod HBm HRa HIs hmf;generalize zI mo=y at *;go_wp2_with fail;obtain⟨q0,q1,q2⟩:=HT.out;exact bodyPost_ret (v:=.tuple #[.agg #[.slice none 0 0,.slice none 0 0,.slice none 0 0],.int .i64 y]) (by simp[results,Tryz.results18,go_sem,q0,q1,q2]) rfl
      ⟨((HBw1.out.setCell (p:=⟨w.heap.size,0,none⟩) (Nat.le_refl _) _).setCell (p:=⟨w.heap.size,1,none⟩) (Nat.le_refl _) _).setCell (p:=⟨w.heap.size,2,none⟩) (Nat.le_refl _) _,_,by rw[HEm.out],by rw[HM1.out]; exact J5,by rw[HM1.out]; exact VX⟩
theorem zgh (s:ByteArray) (w:World):Calls Tryz.prog 18 #[.string s] w fun e w'=>Below w.heap.size w w'/\∃v,e=.returned (.tuple #[v,.int .i64 (xX s)])/\qT (zm w.heap.size w') w' (zA s) v:=
 (KK s w).mono fun _ _ ⟨hb,v,he,hm,_⟩=>⟨hb,v,he,hm⟩
end Go.Proofs.YtedpiamfpbdhoaaGreatDoor
namespace Go.Proofs
open Go.Shelf
def Tryz.lays169_ren:Go.Shelf.Ren:=⟨fun|169=>31|n=>n,fun|70=>78|9=>9|0=>0|72=>81|37=>79|127=>149|3=>3|5=>5|n=>n,fun|n=>n⟩
theorem Tryz.lays169:Go.Proofs.Lays.n169 Tryz.prog Tryz.lays169_ren:={
 mixed:=by kernel_rfl
 f169:=Tryz.func31.trans (congrArg some (by kernel_rfl))
 t0:=Tryz.underlying0
 a0:=Tryz.isAgg0
 z0:=Tryz.sizeOf0
 v0:=Tryz.zeroValue0
 t3:=Tryz.underlying3
 a3:=Tryz.isAgg3
 z3:=Tryz.sizeOf3
 v3:=Tryz.zeroValue3
 t9:=Tryz.underlying9
 a9:=Tryz.isAgg9
 z9:=Tryz.sizeOf9
 v9:=Tryz.zeroValue9
 t37:=Tryz.underlying79
 a37:=Tryz.isAgg79
 z37:=Tryz.sizeOf79
 v37:=Tryz.zeroValue79
 t70:=Tryz.underlying78
 a70:=Tryz.isAgg78
 z70:=Tryz.sizeOf78
 v70:=Tryz.zeroValue78
 t72:=Tryz.underlying81
 a72:=Tryz.isAgg81
 z72:=Tryz.sizeOf81
 v72:=Tryz.zeroValue81
 t127:=Tryz.underlying149
 a127:=Tryz.isAgg149
 z127:=Tryz.sizeOf149
 v127:=Tryz.zeroValue149 }
theorem Tryz.Builder_Extra_169:Builder.Extra Tryz.prog Tryz.lays169_ren:={
 sizeBuilder:=by kernel_rfl
 liesBuilder:=by kernel_rfl
 t5:=Tryz.underlying5
 a5:=Tryz.isAgg5
 z5:=Tryz.sizeOf5
 v5:=Tryz.zeroValue5
 infoByte:=by kernel_rfl
 cellsByte:=by kernel_rfl
 sizeByte:=by kernel_rfl
 neB5:=by decide }
open Go.RowKit in
theorem Tryz.Builder_String_any (B b:Nat) (l:List UInt8) (w:World) (h:Lib.IsBuilder 81 5 B b (Lib.byteCells l) w) (hBw:B<=w.heap.size) :
  Calls Tryz.prog 31 #[.pointer (some ⟨b,0,none⟩)] w fun e w'=>e=.returned (.string ⟨l.toArray⟩)/\Below B w w':=Any.Builder_String_any Tryz.lays169 Tryz.Builder_Extra_169 B b l w h hBw
def Tryz.laysM171_ren:Go.Shelf.Ren:=⟨fun|171=>139|243=>214|246=>278|283=>306|284=>307|285=>308|286=>309|129=>151|317=>325|318=>326|319=>327|320=>328|337=>337|338=>338|n=>n,fun|3=>3|9=>9|2=>2|4=>4|171=>309|0=>0|53=>212|37=>79|5=>5|173=>311|212=>328|51=>210|20=>20|213=>329|46=>154|232=>345|233=>346|n=>n,fun|17=>4|18=>5|19=>6|n=>n⟩
theorem Tryz.laysM171:Go.Proofs.LaysM.n171 Tryz.prog Tryz.laysM171_ren:={
 mixed:=by kernel_rfl
 f129:=Tryz.func151.trans (congrArg some (by kernel_rfl))
 f171:=Tryz.func139.trans (congrArg some (by kernel_rfl))
 f243:=Tryz.func214.trans (congrArg some (by kernel_rfl))
 f246:=Tryz.func278.trans (congrArg some (by kernel_rfl))
 f283:=Tryz.func306.trans (congrArg some (by kernel_rfl))
 f284:=Tryz.func307.trans (congrArg some (by kernel_rfl))
 f285:=Tryz.func308.trans (congrArg some (by kernel_rfl))
 f286:=Tryz.func309.trans (congrArg some (by kernel_rfl))
 f317:=Tryz.func325.trans (congrArg some (by kernel_rfl))
 f318:=Tryz.func326.trans (congrArg some (by kernel_rfl))
 f319:=Tryz.func327.trans (congrArg some (by kernel_rfl))
 f320:=Tryz.func328.trans (congrArg some (by kernel_rfl))
 f337:=Tryz.func337.trans (congrArg some (by kernel_rfl))
 f338:=Tryz.func338.trans (congrArg some (by kernel_rfl))
 t0:=Tryz.underlying0
 a0:=Tryz.isAgg0
 z0:=Tryz.sizeOf0
 v0:=Tryz.zeroValue0
 t2:=Tryz.underlying2
 a2:=Tryz.isAgg2
 z2:=Tryz.sizeOf2
 v2:=Tryz.zeroValue2
 t3:=Tryz.underlying3
 a3:=Tryz.isAgg3
 z3:=Tryz.sizeOf3
 v3:=Tryz.zeroValue3
 t4:=Tryz.underlying4
 a4:=Tryz.isAgg4
 z4:=Tryz.sizeOf4
 v4:=Tryz.zeroValue4
 t5:=Tryz.underlying5
 a5:=Tryz.isAgg5
 z5:=Tryz.sizeOf5
 v5:=Tryz.zeroValue5
 t9:=Tryz.underlying9
 a9:=Tryz.isAgg9
 z9:=Tryz.sizeOf9
 v9:=Tryz.zeroValue9
 t20:=Tryz.underlying20
 a20:=Tryz.isAgg20
 z20:=Tryz.sizeOf20
 v20:=Tryz.zeroValue20
 t37:=Tryz.underlying79
 a37:=Tryz.isAgg79
 z37:=Tryz.sizeOf79
 v37:=Tryz.zeroValue79
 t46:=Tryz.underlying154
 a46:=Tryz.isAgg154
 z46:=Tryz.sizeOf154
 v46:=Tryz.zeroValue154
 t51:=Tryz.underlying210
 a51:=Tryz.isAgg210
 z51:=Tryz.sizeOf210
 v51:=Tryz.zeroValue210
 t53:=Tryz.underlying212
 a53:=Tryz.isAgg212
 z53:=Tryz.sizeOf212
 v53:=Tryz.zeroValue212
 t171:=Tryz.underlying309
 a171:=Tryz.isAgg309
 z171:=Tryz.sizeOf309
 v171:=Tryz.zeroValue309
 t173:=Tryz.underlying311
 a173:=Tryz.isAgg311
 z173:=Tryz.sizeOf311
 v173:=Tryz.zeroValue311
 t212:=Tryz.underlying328
 a212:=Tryz.isAgg328
 z212:=Tryz.sizeOf328
 v212:=Tryz.zeroValue328
 t213:=Tryz.underlying329
 a213:=Tryz.isAgg329
 z213:=Tryz.sizeOf329
 t232:=Tryz.underlying345
 a232:=Tryz.isAgg345
 z232:=Tryz.sizeOf345
 v232:=Tryz.zeroValue345
 t233:=Tryz.underlying346
 a233:=Tryz.isAgg346
 z233:=Tryz.sizeOf346
 v233:=Tryz.zeroValue346
 g17:=by kernel_rfl
 g18:=by kernel_rfl
 g19:=by kernel_rfl
 i0:=by kernel_rfl
 i2:=by kernel_rfl
 i3:=by kernel_rfl
 i4:=by kernel_rfl
 i5:=by kernel_rfl
 i9:=by kernel_rfl
 i20:=by kernel_rfl
 i37:=by kernel_rfl
 i46:=by kernel_rfl
 i51:=by kernel_rfl
 i53:=by kernel_rfl
 i171:=by kernel_rfl
 i173:=by kernel_rfl
 i212:=by kernel_rfl
 i232:=by kernel_rfl
 i233:=by kernel_rfl
 m17:=by kernel_rfl
 m18:=by kernel_rfl
 m19:=by kernel_rfl }
open Go.RowKit Go.Sort Go.Lib in
theorem Tryz.strconv_Itoa (n:Int) (h0:-9223372036854775808<=n) (h1:n<=9223372036854775807) (w:World) (htab:Lib.TabIs Tryz.prog w "internal/strconv.uint64pow10" .u64 Lib.pow10Tab) :
  Calls Tryz.prog 139 #[.int .i64 n] w fun e w'=>e=.returned (.string ⟨(Lib.itoa n).toArray⟩)/\∃k os,w'=grow (w.drewN k) os:=Any.strconv_Itoa Tryz.laysM171 n h0 h1 w htab
end Go.Proofs
namespace Go.Proofs.YtedpiamfpbdhoaaGreatDoor
open Go.RowKit
def vN (o n:ByteArray):List UInt8:=if qv o=true then n.data.toList else o.data.toList++([46]++n.data.toList)
mutual
def yr:Ty->List UInt8
 |.mk k o n xs=>if k=1 then [105,110,116] else if k=2 then [116,101,120,116] else if k=3 then [91]++(XE xs++[93]) else vN o n
def XE:List Ty->List UInt8
 |[]=>[]
 |t::_=>yr t
end
def kX (n:Int):List UInt8:=Lib.decDigits n.toNat
mutual
def xh:Ex->List UInt8
 |.mk k n o s xs=>
  if k=1 then kX n
  else if k=2 then [34]++(s.data.toList++[34])
  else if k=3 then s.data.toList
  else if k=4 then vN o s++([40]++(jL xs++[41]))
  else if k=5 then [40]++(jW xs++([32,43,32]++(Zq xs++[41])))
  else if k=6 then [91]++(jL xs++[93])
  else jW xs++([91]++(Zq xs++[93]))
def jW:List Ex->List UInt8
 |[]=>[]
 |t::_=>xh t
def Zq:List Ex->List UInt8
 |[]=>[]
 |_::r=>jW r
def jL:List Ex->List UInt8
 |[]=>[]
 |t::r=>xh t++QT r
def QT:List Ex->List UInt8
 |[]=>[]
 |t::r=>[44,32]++(xh t++QT r)
end
def jt (l:List Ex):Nat->List UInt8
 |0=>[]
 |k+1=>jt l k++((if k=0 then [] else [44,32])++((l[k]?).elim [] xh))
theorem KL:∀(l:List Ex) (t:Ex) (k:Nat),k<=l.length->jt (t::l) (k+1)++QT (l.drop k)=xh t++QT l
 |l,t,0,_=>by simp[jt]
 |l,t,k+1,h=>by
  have ih:=KL l t k (by omega);have hk:k<l.length:=by omega
  rw[jt,if_neg (by omega)];rw[List.getElem?_cons_succ,List.getElem?_eq_getElem hk,Option.elim];rw[<- ih,List.drop_eq_getElem_cons hk,QT];simp[List.append_assoc]
theorem za6 (l:List Ex):jt l l.length=jL l:=by
 cases l with
 |nil=>simp[jt,jL]
 |cons t r=>
  have:=KL r t r.length (Nat.le_refl _);rw[List.drop_length,QT,List.append_nil] at this;rw[jL,List.length_cons,this]
def ZO (f:Fd):List UInt8:=f.name.data.toList++([58,32]++yr f.is)
def vI (l:List Fd):Nat->List UInt8
 |0=>[]
 |k+1=>vI l k++((if k=0 then [] else [44,32])++((l[k]?).elim [] ZO))
def QU (v:ByteArray):List UInt8:=if qv v=true then [] else [60]++(v.data.toList++[62])
def Zg (f:Fu):List UInt8:=[102,117,110,99,32]++(f.name.data.toList++(QU f.var++([40]++(vI f.params f.params.length++([41,58,32]++(yr f.result++([32,61,32]++xh f.body)))))))
def vD (s:ByteArray):List UInt8:=[117,115,101,32]++(s.data.toList++[10])
def yE (f:Fd):List UInt8:=[116,121,112,101,32]++(f.name.data.toList++([32,61,32]++(yr f.is++[10])))
def v7 (f:Fu):List UInt8:=Zg f++[10]
def zY {α:Type} (g:α->List UInt8) (l:List α):Nat->List UInt8
 |0=>[]
 |k+1=>zY g l k++((l[k]?).elim [] g)
def J6 (m:Mo):List UInt8:=zY vD m.uses m.uses.length++(zY yE m.types m.types.length++zY v7 m.funcs m.funcs.length)
theorem yF {s:ByteArray} (h:zf s=true):s.data.toList.length<=8:=by
 have h1:qj s.size 1 8=true:=by
  cases e:qj s.size 1 8 with
  |true=>rfl
  |false=>rw[zf,vG,e] at h; cases h
 have:s.data.toList.length=s.size:=rfl;simp[qj] at h1;omega
theorem zeA {s:ByteArray} (h:qv s=true):s.data.toList.length=0:=by
 have:s.data.toList=[]:=by simpa [qv] using h
 rw[this]; rfl
theorem VB {s:ByteArray} (h:zD s=true):s.data.toList.length<=8:=by
 unfold zD at h
 cases hn:qv s with
 |true=>have:=zeA hn; omega
 |false=>rw[hn] at h; exact yF (by simpa using h)
theorem zdr {s:ByteArray} (h:yk s=true):s.data.toList.length<=20:=by
 have:s.data.toList.length=s.size:=rfl;simp only[yk,Bool.and_eq_true,decide_eq_true_eq] at h;omega
theorem KM {o n:ByteArray} (ho:zD o=true) (hn:zf n=true):(vN o n).length<=17:=by
 have h1:=VB ho;have h2:=yF hn;unfold vN
 split
 ·omega
 ·simp only[List.length_append,List.length_cons,List.length_nil]; omega
theorem zaM {k:Int} {o n:ByteArray} {xs:List Ty} {d:Nat} (h:zl (.mk k o n xs) d=0):d<=10/\qj k 1 4=true/\jc k o n xs.length=true/\jm xs (d+1)=0:=by
 rw[zl] at h
 split at h
 ·omega
 split at h
 ·omega
 split at h
 ·omega
 rename_i h1 h2 h3
 exact⟨by omega,by simpa using h2,by simpa using h3,h⟩
theorem zeB {xs:List Ty} {d:Nat} (h:jm xs d=0) (j:Nat) (hj:j<xs.length):zl xs[j] d=0:=by
 rw[ZJ] at h;exact qN _ xs h j hj
theorem J7:∀(m:Nat) (t:Ty) (d:Nat),10<d+m->zl t d=0->(yr t).length<=17+2 * m:=by
 intro m
 induction m with
 |zero=>
  rintro ⟨k,o,n,xs⟩ d hd h;have:=(zaM h).1;omega
 |succ m ih=>
  rintro ⟨k,o,n,xs⟩ d hd h;obtain⟨_,hk,hf,hx⟩:=zaM h;rw[yr]
  by_cases h1:k=1
  ·simp only[if_pos h1,List.length_cons,List.length_nil]; omega
  by_cases h2:k=2
  ·simp only[if_neg h1,if_pos h2,List.length_cons,List.length_nil]; omega
  by_cases h3:k=3
  ·simp only[if_neg h1,if_neg h2,if_pos h3,List.length_append,List.length_cons,List.length_nil]
   cases xs with
   |nil=>simp only[XE,List.length_nil]; omega
   |cons t r=>
    have:=ih t (d+1) (by omega) (zeB hx 0 (by simp));simp only[XE];omega
  ·simp only[if_neg h1,if_neg h2,if_neg h3]
   have h4:k=4:=by simp[qj] at hk; omega
   subst h4;have hf':(xs.length==0&&(zf n&&zD o))=true:=hf;simp only[Bool.and_eq_true] at hf';have:=KM hf'.2.2 hf'.2.1;omega
theorem zaN {k n:Int} {o s:ByteArray} {xs:List Ex} {d:Nat} (h:zx (.mk k n o s xs) d=0) :
  d<=10/\qj k 1 7=true/\xs.length<=8/\(k=1\/n=0)/\xl k o s=true/\qe k xs.length=true/\qj n 0 999999=true/\xO xs (d+1)=0:=by
 rw[zx] at h
 split at h
 ·omega
 split at h
 ·omega
 split at h
 ·omega
 split at h
 ·omega
 split at h
 ·omega
 rename_i h1 h2 h3 h4 h5
 have hk1:k=1\/n=0:=by
  by_cases hk:k=1
  ·exact Or.inl hk
  ·by_cases hn:n=0
   ·exact Or.inr hn
   ·exact absurd (Or.inl ⟨hn,hk⟩) h4
 refine⟨by omega,by simpa using h2,by omega,hk1,?_,?_,by simpa using h5,h⟩
 ·cases hn:xl k o s with
  |true=>rfl
  |false=>exact absurd (Or.inr (Or.inl hn)) h4
 ·cases hn:qe k xs.length with
  |true=>rfl
  |false=>exact absurd (Or.inr (Or.inr hn)) h4
theorem QV {xs:List Ex} {d:Nat} (h:xO xs d=0) (j:Nat) (hj:j<xs.length):zx xs[j] d=0:=by
 rw[ki] at h;exact qN _ xs h j hj
theorem KN (l:List Ex) (b:Nat) (h:∀j (hj:j<l.length),(xh l[j]).length<=b):∀k,k<=l.length->(jt l k).length<=k * (b+2)
 |0,_=>by simp[jt]
 |k+1,hk=>by
  have ih:=KN l b h k (by omega);have:=h k (by omega);rw[jt,List.getElem?_eq_getElem (by omega)];simp only[Option.elim,List.length_append];have e:(k+1) * (b+2)=k * (b+2)+(b+2):=Nat.succ_mul k (b+2)
  split
  ·simp only[List.length_nil]; omega
  ·simp only[List.length_cons,List.length_nil]; omega
theorem zgi {n:Int} (h:qj n 0 999999=true):(kX n).length<=6:=by
 unfold kX;rw[Lib.decDigits_length];have hn:n.toNat<=999999:=by simp[qj] at h; omega
 generalize n.toNat=u at *;rw[Lib.nDigits]
 split
 ·omega
 rw[Lib.nDigits]
 split
 ·omega
 rw[Lib.nDigits]
 split
 ·omega
 rw[Lib.nDigits]
 split
 ·omega
 rw[Lib.nDigits]
 split
 ·omega
 rw[Lib.nDigits]
 split
 ·omega
 ·rename_i h0 h1 h2 h3 h4 h5
  exfalso
  omega
theorem zhn:∀(m:Nat) (t:Ex) (d:Nat),10<d+m->zx t d=0->(xh t).length<=20 * 10 ^ m:=by
 intro m
 induction m with
 |zero=>
  rintro ⟨k,n,o,s,xs⟩ d hd h;have:=(zaN h).1;omega
 |succ m ih=>
  rintro ⟨k,n,o,s,xs⟩ d hd h;obtain⟨_,hk,h8,_,hnf,hcf,hr,hx⟩:=zaN h;have each:∀j (hj:j<xs.length),(xh xs[j]).length<=20 * 10 ^ m:=fun j hj=>ih _ (d+1) (by omega) (QV hx j hj)
  have hj:(jL xs).length<=8 * (20 * 10 ^ m+2):=by
   rw[<- za6];refine Nat.le_trans (KN xs _ each xs.length (Nat.le_refl _)) (Nat.mul_le_mul_right _ h8)
  have hf:(jW xs).length<=20 * 10 ^ m:=by
   cases xs with
   |nil=>simp[jW]
   |cons t r=>exact each 0 (by simp)
  have hs:(Zq xs).length<=20 * 10 ^ m:=by
   match xs,each with
   |[],_=>simp[Zq]
   |[t],_=>simp[Zq,jW]
   |t::u::r,each=>exact each 1 (by simp)
  have hp:1<=10 ^ m:=Nat.one_le_iff_ne_zero.2 (by simp);have e10:20 * 10 ^ (m+1)=200 * 10 ^ m:=by rw[Nat.pow_succ]; omega
  rw[e10];generalize 10 ^ m=p at *;rw[xh]
  by_cases h1:k=1
  ·have:=zgi hr
   simp only[if_pos h1]; omega
  by_cases h2:k=2
  ·subst h2
   have hnf':(yk s&&qv o)=true:=hnf;simp only[Bool.and_eq_true] at hnf';have:=zdr hnf'.1;simp only[if_neg h1,if_pos,List.length_append,List.length_cons,List.length_nil]; omega
  by_cases h3:k=3
  ·subst h3
   have hnf':(zf s&&qv o)=true:=hnf;simp only[Bool.and_eq_true] at hnf';have:=yF hnf'.1;simp only[if_neg h1,if_neg h2,if_pos]; omega
  by_cases h4:k=4
  ·subst h4
   have hnf':(zf s&&zD o)=true:=hnf;simp only[Bool.and_eq_true] at hnf';have:=KM hnf'.2 hnf'.1;simp only[if_neg h1,if_neg h2,if_neg h3,if_pos,List.length_append,List.length_cons,List.length_nil]; omega
  by_cases h5:k=5
  ·simp only[if_neg h1,if_neg h2,if_neg h3,if_neg h4,if_pos h5,List.length_append,List.length_cons,List.length_nil]; omega
  by_cases h6:k=6
  ·simp only[if_neg h1,if_neg h2,if_neg h3,if_neg h4,if_neg h5,if_pos h6,List.length_append,List.length_cons,List.length_nil]; omega
  ·simp only[if_neg h1,if_neg h2,if_neg h3,if_neg h4,if_neg h5,if_neg h6,List.length_append,List.length_cons,List.length_nil]; omega
theorem zho {f:Fd} (h:zF f=0):(ZO f).length<=47:=by
 unfold zF at h
 split at h
 ·rename_i hi
  have h1:=yF hi;have h2:=J7 10 f.is 1 (by omega) h;simp only[ZO,List.length_append,List.length_cons,List.length_nil]; omega
 ·omega
theorem KO (l:List Fd) (h:∀j (hj:j<l.length),zF l[j]=0):∀k,k<=l.length->(vI l k).length<=49 * k
 |0,_=>by simp[vI]
 |k+1,hk=>by
  have ih:=KO l h k (by omega);have:=zho (h k (by omega));rw[vI,List.getElem?_eq_getElem (by omega)];simp only[Option.elim,List.length_append]
  split
  ·simp only[List.length_nil]; omega
  ·simp only[List.length_cons,List.length_nil]; omega
theorem zg9 {f:Fu} (h:xw f=0):zf f.name=true/\zD f.var=true/\f.params.length<=8/\(∀j (hj:j<f.params.length),zF f.params[j]=0)/\zl f.result 1=0/\zx f.body 1=0:=by
 unfold xw at h
 split at h
 ·omega
 split at h
 ·omega
 split at h
 ·rename_i h1; exact absurd h h1
 split at h
 ·rename_i h1; exact absurd h h1
 rename_i h1 h2 h3 h4
 refine⟨?_,?_,by omega,qN _ _ (by simpa using h3),by simpa using h4,h⟩
 ·cases hn:zf f.name with
  |true=>rfl
  |false=>exact absurd (Or.inl hn) h1
 ·cases hn:zD f.var with
  |true=>rfl
  |false=>exact absurd (Or.inr hn) h1
theorem zhp {f:Fu} (h:xw f=0):(v7 f).length<=200000000500:=by
 obtain⟨h1,h2,h3,h4,h5,h6⟩:=zg9 h;have a1:=yF h1;have a2:=VB h2;have a3:=KO f.params h4 f.params.length (Nat.le_refl _);have a4:=J7 10 f.result 1 (by omega) h5;have a5:=zhn 10 f.body 1 (by omega) h6;have a6:(QU f.var).length<=10:=by
  unfold QU
  split
  ·simp
  ·simp only[List.length_append,List.length_cons,List.length_nil]; omega
 have e:20 * 10 ^ 10=200000000000:=by decide
 rw[e] at a5;simp only[v7,Zg,List.length_append,List.length_cons,List.length_nil];omega
theorem QB {α:Type} (g:α->List UInt8) (b:Nat) (l:List α) (h:∀j (hj:j<l.length),(g l[j]).length<=b):∀k,k<=l.length->(zY g l k).length<=k * b
 |0,_=>by simp[zY]
 |k+1,hk=>by
  have ih:=QB g b l h k (by omega);have:=h k (by omega);rw[zY,List.getElem?_eq_getElem (by omega)];simp only[Option.elim,List.length_append];have e:(k+1) * b=k * b+b:=Nat.succ_mul k b;omega
theorem zha {m:Mo} (h:zI m=0):¬24<wrap64 (wrap64 ((m.uses.length:Int)+m.types.length)+m.funcs.length)/\(∀j (hj:j<m.uses.length),zf m.uses[j]=true)/\(∀j (hj:j<m.types.length),zF m.types[j]=0)/\(∀j (hj:j<m.funcs.length),xw m.funcs[j]=0):=by
 unfold zI at h
 split at h
 ·omega
 split at h
 ·rename_i h1; exact absurd h h1
 split at h
 ·rename_i h1; exact absurd h h1
 rename_i h0 h1 h2
 refine⟨h0,fun j hj=>?_,qN _ _ (by simpa using h2),qN _ _ h⟩;have:=qN qx m.uses (by simpa using h1) j hj;unfold qx at this
 split at this
 ·assumption
 ·omega
end Go.Proofs.YtedpiamfpbdhoaaGreatDoor
