import Derived.Test.YtedpiamfpbdhoaaGreatDoorJFg10
set_option maxHeartbeats 40000000
set_option maxRecDepth 100000
namespace Go.Proofs.YtedpiamfpbdhoaaGreatDoor
open Go.RowKit
def jq (n:Nat) (d:Nat) (e:Ending) (w':World):Prop:=∃t k f x a m cap,e=.returned (.agg #[.int .i64 k,.string f,.string x,.slice a m cap])/\xJ (zm n w') w' t k f x (.slice a m cap)/\zl t d=0
theorem zh1 (S:Nat->Prop) (w:World):xJ S w (.mk 1 ⟨#[]⟩ ⟨#[]⟩ []) 1 ⟨#[]⟩ ⟨#[]⟩ (.slice none 0 0):=⟨[],rfl,Nat.zero_le _,Nat.zero_le _,none,0,rfl,⟨by simp,by simp⟩,.inl rfl⟩
theorem zhr (S:Nat->Prop) (w:World):xJ S w (.mk 2 ⟨#[]⟩ ⟨#[]⟩ []) 2 ⟨#[]⟩ ⟨#[]⟩ (.slice none 0 0):=⟨[],rfl,Nat.zero_le _,Nat.zero_le _,none,0,rfl,⟨by simp,by simp⟩,.inl rfl⟩
theorem Vn (S:Nat->Prop) (w:World) (o n:ByteArray) (ho:o.size<=8) (hn:n.size<=8):xJ S w (.mk 4 o n []) 4 o n (.slice none 0 0):=⟨[],rfl,by unfold maxLen; omega,by unfold maxLen; omega,none,0,rfl,⟨by simp,by simp⟩,.inl rfl⟩
theorem zeJ {d:Nat} (h:d<=10):zl (.mk 1 ⟨#[]⟩ ⟨#[]⟩ []) d=0:=by
 rw[zl,if_neg (by omega),if_neg (by decide),if_neg (by decide)]; rfl
theorem zdy {d:Nat} (h:d<=10):zl (.mk 2 ⟨#[]⟩ ⟨#[]⟩ []) d=0:=by
 rw[zl,if_neg (by omega),if_neg (by decide),if_neg (by decide)]; rfl
theorem Jx {d:Nat} {o n:ByteArray} (h:d<=10) (hn:zf n=true) (ho:zD o=true):zl (.mk 4 o n []) d=0:=by
 rw[zl,if_neg (by omega),if_neg (by decide),if_neg (by simp[jc,hn,ho])]; rfl
theorem zdz {d:Nat} {t:Ty} (h:d<=10) (ht:zl t (d+1)=0):zl (.mk 3 ⟨#[]⟩ ⟨#[]⟩ [t]) d=0:=by
 rw[zl,if_neg (by omega),if_neg (by decide),if_neg (by simp[jc,qv]),jm,if_pos ht]; rfl
def jv (W:World) (B:Nat) (u0 u1 u2 u3:Value):World:=(((W.setCell ⟨B,0,none⟩ u0).setCell ⟨B,1,none⟩ u1).setCell ⟨B,2,none⟩ u2).setCell ⟨B,3,none⟩ u3
theorem QD {w W:World} {B:Nat} (h:Below B w W) (u0 u1 u2 u3:Value):Below B w (jv W B u0 u1 u2 u3):=
 (((h.setCell (Nat.le_refl _) _).setCell (Nat.le_refl _) _).setCell (Nat.le_refl _) _).setCell (Nat.le_refl _) _
theorem KQ (W:World) (B:Nat) (u0 u1 u2 u3:Value):(jv W B u0 u1 u2 u3).heap.size=W.heap.size:=by simp[jv,World.setCell]
theorem XZ (W:World) (B:Nat) (u0 u1 u2 u3:Value) {b:Nat} (h:b≠B):(jv W B u0 u1 u2 u3).heap[b]? = W.heap[b]?:=by
 unfold jv;rw[Below.heap_setCell _ _ _ _ h,Below.heap_setCell _ _ _ _ h,Below.heap_setCell _ _ _ _ h,Below.heap_setCell _ _ _ _ h]
theorem zbb {n:Nat} {W:World} {t:Ty} {k:Int} {f x:ByteArray} {a:Option Addr} {m cap:Nat} (h:xJ (zm (n+1) W) W t k f x (.slice a m cap)) (u0 u1 u2 u3:Value) (hn:n<W.heap.size) :
  xJ (zm n ((jv W n u0 u1 u2 u3).alloc (.cells #[.int .i64 k,.string f,.string x,.slice a m cap] 67))) ((jv W n u0 u1 u2 u3).alloc (.cells #[.int .i64 k,.string f,.string x,.slice a m cap] 67)) (.mk 3 ⟨#[]⟩ ⟨#[]⟩ [t]) 3 ⟨#[]⟩ ⟨#[]⟩ (.slice (some ⟨W.heap.size,0,none⟩) 1 1):=by
 have hs4:=KQ W n u0 u1 u2 u3;have hal:Below (jv W n u0 u1 u2 u3).heap.size (jv W n u0 u1 u2 u3) ((jv W n u0 u1 u2 u3).alloc (.cells #[.int .i64 k,.string f,.string x,.slice a m cap] 67)):=(Below.refl _ _).alloc (Nat.le_refl _) _;have hsz:((jv W n u0 u1 u2 u3).alloc (.cells #[.int .i64 k,.string f,.string x,.slice a m cap] 67)).heap.size=W.heap.size+1:=by simp[hs4]
 have hbl:((jv W n u0 u1 u2 u3).alloc (.cells #[.int .i64 k,.string f,.string x,.slice a m cap] 67)).heap[W.heap.size]? = some (.cells #[.int .i64 k,.string f,.string x,.slice a m cap] 67 (0,0)):=by
  have:=heap_alloc_new (jv W n u0 u1 u2 u3) (.cells #[.int .i64 k,.string f,.string x,.slice a m cap] 67);rw[hs4] at this;exact this
 refine⟨[t],rfl,Nat.zero_le _,Nat.zero_le _,_,1,rfl,⟨by simp[maxLen],by simp⟩,Or.inr ⟨W.heap.size,0,rfl,⟨by omega,by omega⟩,?_,trivial⟩⟩;refine qL.2 ⟨k,f,x,_,?_,?_,?_,?_,h.keep ⟨fun b hb=>?_,fun b hb=>⟨by have:=hb.1; omega,by rw[hsz]; have:=hb.2; omega⟩⟩⟩
 ·rw[cell_of_row _ _ _ _ _ _ hbl]; rfl
 ·rw[cell_of_row _ _ _ _ _ _ hbl]; rfl
 ·rw[cell_of_row _ _ _ _ _ _ hbl]; rfl
 ·rw[cell_of_row _ _ _ _ _ _ hbl]; rfl
 ·rw[hal.block b (by rw[hs4]; exact hb.2),XZ _ _ _ _ _ _ (by have:=hb.1; omega)]
def Vo (n:Nat) (r:Rw) (W:World):Prop:=W.cell? ⟨n+1,1,none⟩=some (.int .i64 r.a)/\W.cell? ⟨n+1,2,none⟩=some (.int .i64 r.b)
theorem Vo.set {n:Nat} {r:Rw} {W:World} (h:Vo n r W) (u0 u1 u2 u3:Value):Vo n r (jv W n u0 u1 u2 u3):=by
 have hb:=XZ W n u0 u1 u2 u3 (b:=n+1) (by omega);exact⟨(World.cell?_of_block (a:=⟨n+1,1,none⟩) hb).trans h.1,(World.cell?_of_block (a:=⟨n+1,2,none⟩) hb).trans h.2⟩
theorem KR (d:Nat) (hd:1<=d) (hd4:d<=4) (HRec:Hid (d<4->∀(S:Nat->Prop) (l:List Rw) (v:Value) (w:World),(∀b,S b->b<w.heap.size)->ze S (qK w) 4 l v->qz w->
   Calls Tryz.prog 33 #[v,.int .i64 ((d:Int)+1)] w fun e w'=>jq w.heap.size (d+1) e w'/\Below w.heap.size w w'))
  (S:Nat->Prop) (l:List Rw) (v:Value) (w:World) (hS:∀b,S b->b<w.heap.size) (hv:ze S (qK w) 4 l v) (hnm:qz w) :
  Calls Tryz.prog 33 #[v,.int .i64 d] w fun e w'=>jq w.heap.size d e w'/\Below w.heap.size w w':=by
 have hlen:=hv.len;unfold maxLen at hlen;have HV:=zd hv;have HNm:=zd hnm;obtain⟨a,cap,rfl,hcap⟩:=hv.isCap;have HInt:Hid (∀e W,e=.returned (.agg #[.int .i64 1,.string ⟨#[]⟩,.string ⟨#[]⟩,.slice none 0 0])->jq w.heap.size d e W):=fun e W he=>⟨_,_,_,_,_,_,_,he,zh1 _ _,zeJ (by omega)⟩
 clear hv hnm
 cases l with
 |nil=>
  have HB:Hid (∀o,Below w.heap.size w (w.alloc o)):=fun o=>(Below.refl _ _).alloc (Nat.le_refl _) _
  go_enter Tryz.func33,Tryz.ntmps33;go_wp2_with fail;exact bodyPost_ret (v:=.agg #[.int .i64 1,.string ⟨#[]⟩,.string ⟨#[]⟩,.slice none 0 0]) (by simp[results,Tryz.results33,go_sem]) rfl ⟨HInt.out _ _ rfl,HB.out _⟩
 |cons r l=>
  obtain⟨_,b,off,rfl,hb,⟨⟨a0,a1,a2,a3⟩,f0,f1,f2,f3⟩⟩:=HV.out.at (k:=0) (by simp);have hbk:=hS b hb;simp only[List.getElem_cons_zero,Nat.zero_mul,Nat.add_zero] at a0 a1 a2 a3 f0 f1 f2 f3;have hcap':l.length+1<=cap:=hcap;have hl0:((l.length:Int)+1==0)=false:=by simp; omega
  obtain⟨a',cap',hrun,hpart⟩:∃a' cap',(∀W,(Instr.slice 34 (.slice (some ⟨b,off,none⟩) (l.length+1) cap) (some (.int .i64 1)) none none).run Tryz.prog W=.ok (.slice a' l.length cap') W)/\ze S (qK w) 4 l (.slice a' l.length cap'):=by
   obtain⟨a',cap',hsl,hpart⟩:=yW HV.out (i:=1) (j:=l.length+1) (by omega) (Nat.le_refl _);rw[Nat.add_sub_cancel] at hsl hpart;have e1:((r::l).drop 1).take l.length=l:=by simp
   rw[e1] at hpart;exact⟨a',cap',fun W=>by rw[Zs (some ⟨b,off,none⟩) (l.length+1) cap 1 1 rfl (by omega) W,hsl],hpart⟩
  have HPart:=zd hpart;have hlen':l.length+1<=9223372036854775807:=hlen;clear hpart HV hcap hlen;show Calls Tryz.prog 33 #[.slice (some ⟨b,off,none⟩) (l.length+1) cap,.int .i64 d] w _;obtain⟨w2,hwe,hs2,hbox,hres,hbel⟩:∃w2,(w.alloc (.cells #[.int .i64 0,.string ⟨#[]⟩,.string ⟨#[]⟩,.slice none 0 0] 67)).alloc (.cells #[.int .i64 r.kind,.int .i64 r.a,.int .i64 r.b,.int .i64 r.c] 91)=w2/\w2.heap.size=w.heap.size+2/\
    w2.heap[w.heap.size+1]? = some (.cells #[.int .i64 r.kind,.int .i64 r.a,.int .i64 r.b,.int .i64 r.c] 91 (0,0))/\w2.heap[w.heap.size]? = some (.cells #[.int .i64 0,.string ⟨#[]⟩,.string ⟨#[]⟩,.slice none 0 0] 67 (0,0))/\Below w.heap.size w w2:=by
   refine⟨_,rfl,by simp,?_,?_,((Below.refl _ _).alloc (Nat.le_refl _) _).alloc (by simp) _⟩
   ·have:=heap_alloc_new (w.alloc (.cells #[.int .i64 0,.string ⟨#[]⟩,.string ⟨#[]⟩,.slice none 0 0] 67)) (.cells #[.int .i64 r.kind,.int .i64 r.a,.int .i64 r.b,.int .i64 r.c] 91)
    simpa using this
   ·have hb1:Below (w.heap.size+1) (w.alloc (.cells #[.int .i64 0,.string ⟨#[]⟩,.string ⟨#[]⟩,.slice none 0 0] 67)) ((w.alloc (.cells #[.int .i64 0,.string ⟨#[]⟩,.string ⟨#[]⟩,.slice none 0 0] 67)).alloc (.cells #[.int .i64 r.kind,.int .i64 r.a,.int .i64 r.b,.int .i64 r.c] 91)):=(Below.refl _ _).alloc (by simp) _
    exact (hb1.block _ (by omega)).trans (heap_alloc_new _ _)
  have HFacts:Hid (∀W,Below (w.heap.size+2) w2 W->((W.cell? ⟨w.heap.size+1,1,none⟩=some (.int .i64 r.a)/\W.cell? ⟨w.heap.size+1,2,none⟩=some (.int .i64 r.b))/\Below w.heap.size w W/\w.heap.size+2<=W.heap.size)/\
    (W.cell? ⟨w.heap.size,0,none⟩=some (.int .i64 0)/\W.cell? ⟨w.heap.size,1,none⟩=some (.string ⟨#[]⟩)/\W.cell? ⟨w.heap.size,2,none⟩=some (.string ⟨#[]⟩)/\W.cell? ⟨w.heap.size,3,none⟩=some (.slice none 0 0))/\
    W.frozen? ⟨w.heap.size,0,none⟩=false/\W.frozen? ⟨w.heap.size,1,none⟩=false/\W.frozen? ⟨w.heap.size,2,none⟩=false/\W.frozen? ⟨w.heap.size,3,none⟩=false):=fun W h=>by
   have g1:=(h.block (w.heap.size+1) (by omega)).trans hbox;have g2:=(h.block w.heap.size (by omega)).trans hres;have hsz:=h.size;refine⟨⟨⟨?_,?_⟩,hbel.trans (h.mono (by omega)),by omega⟩,⟨?_,?_,?_,?_⟩,?_,?_,?_,?_⟩
   all_goals first|(rw[cell_of_row _ _ _ _ _ _ g1]; rfl)|(rw[cell_of_row _ _ _ _ _ _ g2]; rfl)|exact frozen_of_row _ _ _ _ _ g2
  have HWe:=zd hwe;have HSet:Hid (∀W u0 u1 u2 u3,Below w.heap.size w W->Below w.heap.size w (jv W w.heap.size u0 u1 u2 u3)):=fun W u0 u1 u2 u3 h=>QD h u0 u1 u2 u3
  obtain⟨⟨⟨x1,x2⟩,hbw,hsz⟩,⟨x3,x4,x5,x6⟩,x7,x8,x9,x10⟩:=HFacts.out w2 (Below.refl _ _);have HBw:=zd hbw;clear hwe hbox hres hbel hbw;go_enter Tryz.func33,Tryz.ntmps33;go_wp2_with fail;rw[HWe.out];refine (XY r.kind f0 8 (by omega) (by omega) _).mono ?_;rintro e w1 ⟨k,rfl,hk,rfl⟩
  by_cases hk2:k<2
  ·have hk2':(k:Int)<2:=by omega
   by_cases hdl:d<4
   ·have hdl':(d:Int)<4:=by omega
    have HC:Hid (Calls Tryz.prog 33 #[.slice a' l.length cap',.int .i64 ((d:Int)+1)] w2 fun e w'=>jq w2.heap.size (d+1) e w'/\Below w2.heap.size w2 w'):=
     HRec.out hdl S l _ w2 (fun b hb=>Nat.lt_of_lt_of_le (hS b hb) HBw.out.size) (vO (Keeps.below HBw.out hS) HPart.out) (HNm.out.keep HBw.out)
    clear HRec x1 x2 x3 x4 x5 x6 x7 x8 x9 x10;go_wp2_with fail;refine HC.out.mono ?_;rintro e w3 ⟨⟨t,kk,ff,xx,aa,mm,cc,rfl,hcs,hft⟩,hb3⟩;obtain⟨⟨_,hbw3,hsz3⟩,⟨y3,y4,y5,y6⟩,y7,y8,y9,y10⟩:=HFacts.out w3 (by rw[hs2] at hb3; exact hb3);have hlt3:w.heap.size<w3.heap.size:=by omega
    have HCs:Hid (xJ (zm (w.heap.size+1) w3) w3 t kk ff xx (.slice aa mm cc)):=hcs.keep ⟨fun _ _=>rfl,fun b hb=>⟨by have:=hb.1; omega,hb.2⟩⟩;have HFt:=zd (zdz (d:=d) (by omega) hft);have HBw3:=zd hbw3;have HM:Hid (∀o u0 u1 u2 u3,Below w.heap.size w ((jv w3 w.heap.size u0 u1 u2 u3).alloc o)):=fun o u0 u1 u2 u3=>(QD HBw3.out _ _ _ _).alloc (by rw[KQ]; omega) _
    clear hb3 hcs hft hbw3;go_wp2_with fail;exact bodyPost_ret (v:=.agg #[.int .i64 3,.string ⟨#[]⟩,.string ⟨#[]⟩,.slice (some ⟨w3.heap.size,0,none⟩) 1 1]) (by simp[results,Tryz.results33,go_sem,y3,y4,y5,y6,hlt3]) rfl ⟨⟨_,_,_,_,_,_,_,rfl,zbb HCs.out _ _ _ _ hlt3,HFt.out⟩,HM.out _ _ _ _ _⟩
   ·have hdl':¬(d:Int)<4:=by omega
    have hk4':(k:Int)<4:=by omega
    clear HRec;go_wp2_with fail;exact bodyPost_ret (v:=.agg #[.int .i64 1,.string ⟨#[]⟩,.string ⟨#[]⟩,.slice none 0 0]) (by simp[results,Tryz.results33,go_sem,x3,x4,x5,x6]) rfl ⟨HInt.out _ _ rfl,HSet.out _ _ _ _ _ HBw.out⟩
  have hk2':¬(k:Int)<2:=by omega
  clear HRec
  by_cases hk4:k<4
  ·have hk4':(k:Int)<4:=by omega
   go_wp2_with fail;exact bodyPost_ret (v:=.agg #[.int .i64 1,.string ⟨#[]⟩,.string ⟨#[]⟩,.slice none 0 0]) (by simp[results,Tryz.results33,go_sem,x3,x4,x5,x6]) rfl ⟨HInt.out _ _ rfl,HSet.out _ _ _ _ _ HBw.out⟩
  have hk4':¬(k:Int)<4:=by omega
  by_cases hk5:k=4
  ·have hk5':((k:Int)==4)=true:=by simp; omega
   clear hk5;go_wp2_with fail;exact bodyPost_ret (v:=.agg #[.int .i64 2,.string ⟨#[]⟩,.string ⟨#[]⟩,.slice none 0 0]) (by simp[results,Tryz.results33,go_sem,x3,x4,x5,x6]) rfl ⟨⟨_,_,_,_,_,_,_,rfl,zhr _ _,zdy (by omega)⟩,HSet.out _ _ _ _ _ HBw.out⟩
  have hk5':((k:Int)==4)=false:=by simp; omega
  have HN2:=zd (HNm.out.keep HBw.out)
  by_cases hk6:k=5
  ·have hk6':((k:Int)==5)=true:=by simp; omega
   clear hk5 hk6;have HNd:Hid (qz w2.drew):=HN2.out.keep ((Below.refl _ _).drew);have HK0:Hid (Vo w.heap.size r w2.drew):=⟨x1,x2⟩
   have HK2:Hid (∀W u0 u1 u2 u3,Vo w.heap.size r W->Vo w.heap.size r (jv W w.heap.size u0 u1 u2 u3)):=fun W u0 u1 u2 u3 h=>h.set _ _ _ _
   have HBd:Hid (∀u0 u1 u2 u3,Below w.heap.size w (jv w2.drew w.heap.size u0 u1 u2 u3)):=fun u0 u1 u2 u3=>QD HBw.out.drew _ _ _ _
   go_wp2_with fail
   go_region_held3 (fun W=>W.cell? ⟨w.heap.size+1,1,none⟩=some (.int .i64 r.a)/\W.cell? ⟨w.heap.size+1,2,none⟩=some (.int .i64 r.b)) (first|exact HK0.out|exact HK2.out _ _ _ _ _ (by assumption)|assumption)
    (first
     |(go_at_call_of 32 (Value.int .i64 r.a); refine (yX _ f1 _ HNd.out).mono ?_; rintro e w' ⟨s1,rfl,hs1,hz1,rfl⟩; have HI1:=zd hs1; clear hs1)
     |(go_at_call_of 32 (Value.int .i64 r.b); refine (yX _ f2 _ HNd.out).mono ?_; rintro e w' ⟨s2,rfl,hs2',hz2,rfl⟩; have HI2:=zd hs2'; clear hs2'))
   all_goals
    rename_i hHeld
    clear hHeld;go_wp2_with fail;exact bodyPost_ret (v:=.agg #[.int .i64 4,.string s1,.string s2,.slice none 0 0]) (by simp[results,Tryz.results33,go_sem,x3,x4,x5,x6]) rfl ⟨⟨_,_,_,_,_,_,_,rfl,Vn _ _ _ _ hz1 hz2,Jx (by omega) HI2.out (by unfold zD; rw[HI1.out]; simp)⟩,HBd.out _ _ _ _⟩
  ·have hk6':((k:Int)==5)=false:=by simp; omega
   clear hk5 hk6;go_wp2_with fail;refine (yX _ f2 _ HN2.out).mono ?_;rintro e w3 ⟨s,rfl,hs,hs8,rfl⟩;have HI:=zd hs;clear hs;go_wp2_with fail;exact bodyPost_ret (v:=.agg #[.int .i64 4,.string ⟨#[]⟩,.string s,.slice none 0 0]) (by simp[results,Tryz.results33,go_sem,x3,x4,x5,x6]) rfl ⟨⟨_,_,_,_,_,_,_,rfl,Vn _ _ _ _ (Nat.zero_le _) hs8,Jx (by omega) HI.out (by decide)⟩,HSet.out _ _ _ _ _ HBw.out⟩
theorem V0:∀(m d:Nat),1<=d->d+m=4->∀(S:Nat->Prop) (l:List Rw) (v:Value) (w:World),(∀b,S b->b<w.heap.size)->ze S (qK w) 4 l v->qz w->
  Calls Tryz.prog 33 #[v,.int .i64 d] w fun e w'=>jq w.heap.size d e w'/\Below w.heap.size w w':=by
 intro m
 induction m with
 |zero=>exact fun d hd hm=>KR d hd (by omega) (fun h=>absurd h (by omega))
 |succ m ih=>exact fun d hd hm=>KR d hd (by omega) (fun _=>ih (d+1) (by omega) (by omega))
def xQ (n:Nat) (d:Nat) (e:Ending) (w':World):Prop:=∃x k q f s a m cap,e=.returned (.agg #[.int .i64 k,.int .i64 q,.string f,.string s,.slice a m cap])/\xP (zm n w') w' x k q f s (.slice a m cap)/\zx x d=0
theorem jF (S:Nat->Prop) (w:World) (k q:Int) (s:ByteArray) (hs:s.size<=20):xP S w (.mk k q ⟨#[]⟩ s []) k q ⟨#[]⟩ s (.slice none 0 0):=⟨[],rfl,Nat.zero_le _,by unfold maxLen; omega,none,0,rfl,⟨by simp,by simp⟩,.inl rfl⟩
theorem YM {d:Nat} {q:Int} (h:d<=10) (h0:0<=q) (h1:q<=999999):zx (.mk 1 q ⟨#[]⟩ ⟨#[]⟩ []) d=0:=by
 rw[zx,if_neg (by omega),if_neg (by decide),if_neg (by simp),if_neg (by simp[xl,qe,qv]),if_neg (by simp[qj]; omega)]; rfl
theorem VC {d:Nat} {s:ByteArray} (h:d<=10) (hs:yk s=true):zx (.mk 2 0 ⟨#[]⟩ s []) d=0:=by
 rw[zx,if_neg (by omega),if_neg (by decide),if_neg (by simp),if_neg (by simp[xl,qe,qv,hs]),if_neg (by decide)]; rfl
theorem Z3 {d:Nat} {s:ByteArray} (h:d<=10) (hs:zf s=true):zx (.mk 3 0 ⟨#[]⟩ s []) d=0:=by
 rw[zx,if_neg (by omega),if_neg (by decide),if_neg (by simp),if_neg (by simp[xl,qe,qv,hs]),if_neg (by decide)]; rfl
theorem YN {d:Nat} {k:Int} {x y:Ex} (h:d<=10) (hk:k=5\/k=6\/k=7) (hx:zx x (d+1)=0) (hy:zx y (d+1)=0):zx (.mk k 0 ⟨#[]⟩ ⟨#[]⟩ [x,y]) d=0:=by
 rcases hk with rfl|rfl|rfl
 all_goals rw[zx,if_neg (by omega),if_neg (by decide),if_neg (by simp),if_neg (by simp[xl,qe,qv]),if_neg (by decide),xO,if_pos hx,xO,if_pos hy]; rfl
def yY (W:World) (B:Nat) (u0 u1 u2 u3 u4:Value):World:=(jv W B u0 u1 u2 u3).setCell ⟨B,4,none⟩ u4
theorem ko {w W:World} {B:Nat} (h:Below B w W) (u0 u1 u2 u3 u4:Value):Below B w (yY W B u0 u1 u2 u3 u4):=(QD h u0 u1 u2 u3).setCell (Nat.le_refl _) _
theorem Qj (W:World) (B:Nat) (u0 u1 u2 u3 u4:Value):(yY W B u0 u1 u2 u3 u4).heap.size=W.heap.size:=by simp[yY,jv,World.setCell]
theorem X0 (W:World) (B:Nat) (u0 u1 u2 u3 u4:Value) {b:Nat} (h:b≠B):(yY W B u0 u1 u2 u3 u4).heap[b]? = W.heap[b]?:=by
 unfold yY;rw[Below.heap_setCell _ _ _ _ h,XZ _ _ _ _ _ _ h]
theorem Xp {n:Nat} {W:World} {x y:Ex} {k q:Int} {f s:ByteArray} {a:Option Addr} {m cap:Nat} {k' q':Int} {f' s':ByteArray} {a':Option Addr} {m' cap':Nat} (hx:xP (zm (n+1) W) W x k q f s (.slice a m cap)) (hy:xP (zm (n+1) W) W y k' q' f' s' (.slice a' m' cap')) (kk:Int) (u0 u1 u2 u3 u4:Value) (hn:n<W.heap.size) :
  xP (zm n ((yY W n u0 u1 u2 u3 u4).alloc (.cells #[.int .i64 k,.int .i64 q,.string f,.string s,.slice a m cap,.int .i64 k',.int .i64 q',.string f',.string s',.slice a' m' cap'] 70))) ((yY W n u0 u1 u2 u3 u4).alloc (.cells #[.int .i64 k,.int .i64 q,.string f,.string s,.slice a m cap,.int .i64 k',.int .i64 q',.string f',.string s',.slice a' m' cap'] 70)) (.mk kk 0 ⟨#[]⟩ ⟨#[]⟩ [x,y]) kk 0 ⟨#[]⟩ ⟨#[]⟩ (.slice (some ⟨W.heap.size,0,none⟩) 2 2):=by
 have hs5:=Qj W n u0 u1 u2 u3 u4;generalize hO:(Obj.cells #[.int .i64 k,.int .i64 q,.string f,.string s,.slice a m cap,.int .i64 k',.int .i64 q',.string f',.string s',.slice a' m' cap'] 70)=O;have hal:Below (yY W n u0 u1 u2 u3 u4).heap.size (yY W n u0 u1 u2 u3 u4) ((yY W n u0 u1 u2 u3 u4).alloc O):=(Below.refl _ _).alloc (Nat.le_refl _) _;have hsz:((yY W n u0 u1 u2 u3 u4).alloc O).heap.size=W.heap.size+1:=by simp[hs5]
 have hbl:((yY W n u0 u1 u2 u3 u4).alloc O).heap[W.heap.size]? = some (.cells #[.int .i64 k,.int .i64 q,.string f,.string s,.slice a m cap,.int .i64 k',.int .i64 q',.string f',.string s',.slice a' m' cap'] 70 (0,0)):=by
  have:=heap_alloc_new (yY W n u0 u1 u2 u3 u4) O;rw[hs5,<- hO] at this;rw[<- hO];exact this
 have hk:Keeps (zm (n+1) W) (zm n ((yY W n u0 u1 u2 u3 u4).alloc O)) W ((yY W n u0 u1 u2 u3 u4).alloc O):=
  ⟨fun b hb=>by rw[hal.block b (by rw[hs5]; exact hb.2),X0 _ _ _ _ _ _ _ (by have:=hb.1; omega)],fun b hb=>⟨by have:=hb.1; omega,by rw[hsz]; have:=hb.2; omega⟩⟩
 refine⟨[x,y],rfl,Nat.zero_le _,Nat.zero_le _,_,2,rfl,⟨by simp[maxLen],by simp⟩,Or.inr ⟨W.heap.size,0,rfl,⟨by omega,by omega⟩,?_,?_,trivial⟩⟩
 ·refine qU.2 ⟨k,q,f,s,_,?_,?_,?_,?_,?_,hx.keep hk⟩
  all_goals (rw[cell_of_row _ _ _ _ _ _ hbl]; rfl)
 ·refine qU.2 ⟨k',q',f',s',_,?_,?_,?_,?_,?_,hy.keep hk⟩
  all_goals (rw[cell_of_row _ _ _ _ _ _ hbl]; rfl)
def qi (n m:Int):Nat:=if n<0 then ((-(n+1)) % m).toNat else (n % m).toNat
theorem yG (n m:Int) (h0:0<m):((qi n m:Nat):Int)<m:=by
 unfold qi
 split
 ·rw[Int.toNat_of_nonneg (Int.emod_nonneg _ (by omega))]; exact Int.emod_lt_of_pos _ h0
 ·rw[Int.toNat_of_nonneg (Int.emod_nonneg _ (by omega))]; exact Int.emod_lt_of_pos _ h0
theorem qR (n:Int) (hn:wfI n) (m:Int) (h0:0<m) (h1:m<=9223372036854775807) (w:World) :
  Calls Tryz.prog 13 #[.int .i64 n,.int .i64 m] w fun e w'=>e=.returned (.int .i64 (qi n m))/\w=w':=by
 have hx:-9223372036854775808<=n/\n<=9223372036854775807:=by simpa [wfI,Lit.wf,IntKind.min,IntKind.max,IntKind.signed,IntKind.bits] using hn
 obtain⟨hx0,hx1⟩:=hx;clear hn
 by_cases hneg:n<0
 ·have e:-((n+1).tmod m)=(((-(n+1)) % m).toNat:Int):=by
   rw[<- Int.neg_tmod,Int.tmod_eq_emod_of_nonneg (by omega),Int.toNat_of_nonneg (Int.emod_nonneg _ (by omega))]
  have hk:(((-(n+1)) % m).toNat:Int)<m:=by
   rw[Int.toNat_of_nonneg (Int.emod_nonneg _ (by omega))];exact Int.emod_lt_of_pos _ h0
  have HP:Hid (qi n m=((-(n+1)) % m).toNat):=by unfold Hid qi; rw[if_pos hneg]
  have HE:=zd e;clear e hk;go_enter Tryz.func13,Tryz.ntmps13
  go_wp2
  go_ret;exact⟨by rw[HP.out,<- HE.out]; rfl,rfl⟩
 ·have e:n.tmod m=((n % m).toNat:Int):=by
   rw[Int.tmod_eq_emod_of_nonneg (by omega),Int.toNat_of_nonneg (Int.emod_nonneg _ (by omega))]
  have e':n % m=((n % m).toNat:Int):=by
   rw[Int.toNat_of_nonneg (Int.emod_nonneg _ (by omega))]
  have HP:Hid (qi n m=(n % m).toNat):=by unfold Hid qi; rw[if_neg hneg]
  have HE:=zd e;have HE':=zd e';clear e e';go_enter Tryz.func13,Tryz.ntmps13
  go_wp2
  go_ret;exact⟨by rw[HP.out]; first|(rw[<- HE.out]; rfl)|(rw[<- HE'.out]; rfl),rfl⟩
def kZ (S:Nat->Prop) (w:World) (ps:List Fd) (pv:Value):Prop:=ze S (qO S w) 5 ps pv/\∀p∈ps,zf p.name=true/\p.name.size<=8
theorem KS (d:Nat) (hd:1<=d) (hd5:d<=5)
  (S:Nat->Prop) (r:Rw) (l:List Rw) (v:Value) (ps:List Fd) (pv:Value) (w:World) (hS:∀b,S b->b<w.heap.size) (hv:ze S (qK w) 4 (r::l) v) (hps:kZ S w ps pv) (hnm:qz w) (hk:d<5->qi r.kind 16<7) :
  Calls Tryz.prog 34 #[v,pv,.int .i64 d] w fun e w'=>xQ w.heap.size d e w'/\Below w.heap.size w w':=by
 have hlen:=hv.len;unfold maxLen at hlen;have HV:=zd hv;have HNm:=zd hnm;have HPs:=zd hps;obtain⟨a,cap,rfl,hcap⟩:=hv.isCap;obtain⟨pa,pcap,rfl,hpcap⟩:=hps.1.isCap;have hplen:=hps.1.len;unfold maxLen at hplen;clear hv hnm hps;obtain⟨_,b,off,rfl,hb,⟨⟨a0,a1,a2,a3⟩,f0,f1,f2,f3⟩⟩:=HV.out.at (k:=0) (by simp);have hbk:=hS b hb;simp only[List.getElem_cons_zero,Nat.zero_mul,Nat.add_zero] at a0 a1 a2 a3 f0 f1 f2 f3;have hcap':l.length+1<=cap:=hcap;have hl0:((l.length:Int)+1==0)=false:=by simp; omega
 obtain⟨a',cap',hrun,hpart⟩:∃a' cap',(∀W,(Instr.slice 34 (.slice (some ⟨b,off,none⟩) (l.length+1) cap) (some (.int .i64 1)) none none).run Tryz.prog W=.ok (.slice a' l.length cap') W)/\ze S (qK w) 4 l (.slice a' l.length cap'):=by
  obtain⟨a',cap',hsl,hpart⟩:=yW HV.out (i:=1) (j:=l.length+1) (by omega) (Nat.le_refl _);rw[Nat.add_sub_cancel] at hsl hpart;have e1:((r::l).drop 1).take l.length=l:=by simp
  rw[e1] at hpart;exact⟨a',cap',fun W=>by rw[Zs (some ⟨b,off,none⟩) (l.length+1) cap 1 1 rfl (by omega) W,hsl],hpart⟩
 have hlen':l.length+1<=9223372036854775807:=hlen;obtain⟨h,hh,hh'⟩:∃h:Nat,(l.length:Int) / 2=h/\h<=l.length:=⟨l.length / 2,by omega,by omega⟩
 obtain⟨a'',cap'',e',⟨hc1,hc2⟩,_⟩:=id hpart;injection e' with e1 e2 e3
 subst e1 e3;obtain⟨ah,ch,hrunh,hparth⟩:∃ah ch,(∀W,(Instr.slice 34 (.slice a' l.length cap') none (some (.int .i64 ((l.length:Int) / 2))) none).run Tryz.prog W=.ok (.slice ah h ch) W)/\ze S (qK w) 4 (l.take h) (.slice ah h ch):=by
  obtain⟨ah,ch,hsl,hp⟩:=yW hpart (i:=0) (j:=h) (by omega) hh';rw[Nat.sub_zero,List.drop_zero] at hp;rw[Nat.sub_zero] at hsl;exact⟨ah,ch,fun W=>by rw[zba a' l.length cap' h _ hh (by omega) W,hsl],hp⟩
 obtain⟨ao,co,m,hruno,hparto⟩:∃ao co m,(∀W,(Instr.slice 34 (.slice a' l.length cap') (some (.int .i64 ((l.length:Int) / 2))) none none).run Tryz.prog W=.ok (.slice ao m co) W)/\ze S (qK w) 4 ((l.drop h).take m) (.slice ao m co):=by
  obtain⟨ao,co,hsl,hp⟩:=yW hpart (i:=h) (j:=l.length) hh' (Nat.le_refl _);exact⟨ao,co,_,fun W=>by rw[Zs a' l.length cap' h _ hh hh' W,hsl],hp⟩
 have HPh:=zd hparth;have HPo:=zd hparto;clear hpart hparth hparto HV hcap hlen hc1 hc2;have hle1:¬(l.length:Int) / 2<0:=by omega
 clear hh;show Calls Tryz.prog 34 #[.slice (some ⟨b,off,none⟩) (l.length+1) cap,.slice pa ps.length pcap,.int .i64 d] w _;obtain⟨w2,hwe,hs2,hbox,hres,hbel⟩:∃w2,(w.alloc (.cells #[.int .i64 0,.int .i64 0,.string ⟨#[]⟩,.string ⟨#[]⟩,.slice none 0 0] 70)).alloc (.cells #[.int .i64 r.kind,.int .i64 r.a,.int .i64 r.b,.int .i64 r.c] 91)=w2/\w2.heap.size=w.heap.size+2/\
   w2.heap[w.heap.size+1]? = some (.cells #[.int .i64 r.kind,.int .i64 r.a,.int .i64 r.b,.int .i64 r.c] 91 (0,0))/\w2.heap[w.heap.size]? = some (.cells #[.int .i64 0,.int .i64 0,.string ⟨#[]⟩,.string ⟨#[]⟩,.slice none 0 0] 70 (0,0))/\Below w.heap.size w w2:=by
  refine⟨_,rfl,by simp,?_,?_,((Below.refl _ _).alloc (Nat.le_refl _) _).alloc (by simp) _⟩
  ·have:=heap_alloc_new (w.alloc (.cells #[.int .i64 0,.int .i64 0,.string ⟨#[]⟩,.string ⟨#[]⟩,.slice none 0 0] 70)) (.cells #[.int .i64 r.kind,.int .i64 r.a,.int .i64 r.b,.int .i64 r.c] 91)
   simpa using this
  ·have hb1:Below (w.heap.size+1) (w.alloc (.cells #[.int .i64 0,.int .i64 0,.string ⟨#[]⟩,.string ⟨#[]⟩,.slice none 0 0] 70)) ((w.alloc (.cells #[.int .i64 0,.int .i64 0,.string ⟨#[]⟩,.string ⟨#[]⟩,.slice none 0 0] 70)).alloc (.cells #[.int .i64 r.kind,.int .i64 r.a,.int .i64 r.b,.int .i64 r.c] 91)):=(Below.refl _ _).alloc (by simp) _
   exact (hb1.block _ (by omega)).trans (heap_alloc_new _ _)
 have HFacts:Hid (∀W,Below (w.heap.size+2) w2 W->((W.cell? ⟨w.heap.size+1,0,none⟩=some (.int .i64 r.kind)/\W.cell? ⟨w.heap.size+1,1,none⟩=some (.int .i64 r.a)/\W.cell? ⟨w.heap.size+1,2,none⟩=some (.int .i64 r.b)/\W.cell? ⟨w.heap.size+1,3,none⟩=some (.int .i64 r.c))/\Below w.heap.size w W/\w.heap.size+2<=W.heap.size)/\
   (W.cell? ⟨w.heap.size,0,none⟩=some (.int .i64 0)/\W.cell? ⟨w.heap.size,1,none⟩=some (.int .i64 0)/\W.cell? ⟨w.heap.size,2,none⟩=some (.string ⟨#[]⟩)/\W.cell? ⟨w.heap.size,3,none⟩=some (.string ⟨#[]⟩)/\W.cell? ⟨w.heap.size,4,none⟩=some (.slice none 0 0))/\
   W.frozen? ⟨w.heap.size,0,none⟩=false/\W.frozen? ⟨w.heap.size,1,none⟩=false/\W.frozen? ⟨w.heap.size,2,none⟩=false/\W.frozen? ⟨w.heap.size,3,none⟩=false/\W.frozen? ⟨w.heap.size,4,none⟩=false):=fun W h=>by
  have g1:=(h.block (w.heap.size+1) (by omega)).trans hbox;have g2:=(h.block w.heap.size (by omega)).trans hres;have hsz:=h.size;refine⟨⟨⟨?_,?_,?_,?_⟩,hbel.trans (h.mono (by omega)),by omega⟩,⟨?_,?_,?_,?_,?_⟩,?_,?_,?_,?_,?_⟩
  all_goals first|(rw[cell_of_row _ _ _ _ _ _ g1]; rfl)|(rw[cell_of_row _ _ _ _ _ _ g2]; rfl)|exact frozen_of_row _ _ _ _ _ g2
 have HWe:=zd hwe;have HSet:Hid (∀W u0 u1 u2 u3 u4,Below w.heap.size w W->Below w.heap.size w (yY W w.heap.size u0 u1 u2 u3 u4)):=fun W u0 u1 u2 u3 u4 h=>ko h u0 u1 u2 u3 u4
 obtain⟨⟨⟨x0,x1,x2,x3⟩,hbw,hsz⟩,⟨y0,y1,y2,y3,y4⟩,z0,z1,z2,z3,z4⟩:=HFacts.out w2 (Below.refl _ _);have HBw:=zd hbw;have HN2:=zd (HNm.out.keep HBw.out);clear hwe hbox hres hbel hbw;go_enter Tryz.func34,Tryz.ntmps34;go_wp2_with fail;rw[HWe.out];refine (qR r.kind f0 16 (by omega) (by omega) _).mono ?_;rintro e w1 ⟨rfl,rfl⟩
 by_cases hdl:d<5
 ·have hdl':¬5<=(d:Int):=by omega
  have hk7:=hk hdl;clear hk hdl;generalize qi r.kind 16=k at hk7 ⊢
  by_cases hk2:k<2
  ·have hk2':(k:Int)<2:=by omega
   clear HNm HPs HN2;go_wp2_with fail;refine (qR r.a f1 50 (by omega) (by omega) _).mono ?_;rintro e w1 ⟨rfl,rfl⟩;have hq:=yG r.a 50 (by omega);generalize qi r.a 50=q at hq ⊢;have HQ:=zd hq;clear hq;go_wp2_with fail;exact bodyPost_ret (v:=.agg #[.int .i64 1,.int .i64 q,.string ⟨#[]⟩,.string ⟨#[]⟩,.slice none 0 0]) (by simp[results,Tryz.results34,go_sem,y0,y1,y2,y3,y4]) rfl ⟨⟨_,_,_,_,_,_,_,_,rfl,jF _ _ _ _ _ (Nat.zero_le _),YM (by omega) (by omega) (by have:=HQ.out; omega)⟩,HSet.out _ _ _ _ _ _ HBw.out⟩
  have hk2':¬(k:Int)<2:=by omega
  by_cases hk3:k=2
  ·have hk3':((k:Int)==2)=true:=by simp; omega
   clear HNm HPs HN2 hk3;go_wp2_with fail;obtain⟨wq,hwq,hqb,hqc,hqs⟩:∃wq,w2.alloc (.cells #[.string ⟨#[]⟩,.string ⟨#[104,105]⟩,.string ⟨#[97,32,98]⟩,.string ⟨#[105,116,39,115]⟩] 9)=wq/\Below (w.heap.size+2) w2 wq/\(∃s:ByteArray,wq.cell? ⟨w2.heap.size,qi r.a 4,none⟩=some (.string s)/\yk s=true/\s.size<=20)/\w2.heap.size<wq.heap.size:=by
    refine⟨_,rfl,(Below.refl _ _).alloc (by omega) _,?_,by simp⟩;have hq:=yG r.a 4 (by omega);generalize qi r.a 4=q at hq ⊢;rw[cell_of_row _ _ _ _ _ _ (heap_alloc_new _ _)]
    match q,hq with
    |0,_=>exact⟨_,rfl,by decide +kernel,by decide⟩
    |1,_=>exact⟨_,rfl,by decide +kernel,by decide⟩
    |2,_=>exact⟨_,rfl,by decide +kernel,by decide⟩
    |3,_=>exact⟨_,rfl,by decide +kernel,by decide⟩
    |q+4,hq=>omega
   obtain⟨s,hqc,hI,hs8⟩:=hqc;rw[hs2] at hqc;have HI:=zd hI;obtain⟨⟨⟨x0,x1,x2,x3⟩,hbw,hsz⟩,⟨y0,y1,y2,y3,y4⟩,z0,z1,z2,z3,z4⟩:=HFacts.out wq hqb;have HBq:=zd hbw;clear hI hqb hbw;rw[hwq];clear hwq;refine (qR r.a f1 4 (by omega) (by omega) _).mono ?_;rintro e w1 ⟨rfl,rfl⟩;have hq:=yG r.a 4 (by omega);generalize qi r.a 4=q at hq hqc ⊢;go_wp2_with fail;exact bodyPost_ret (v:=.agg #[.int .i64 2,.int .i64 0,.string ⟨#[]⟩,.string s,.slice none 0 0]) (by simp[results,Tryz.results34,go_sem,y0,y1,y2,y3,y4]) rfl ⟨⟨_,_,_,_,_,_,_,_,rfl,jF _ _ _ _ _ hs8,VC (by omega) HI.out⟩,HSet.out _ _ _ _ _ _ HBq.out⟩
  have hk3':((k:Int)==2)=false:=by simp; omega
  have hk7':(k:Int)<7:=by omega
  by_cases hp:ps.length=0
  ·have hp':¬0<(ps.length:Int):=by omega
   clear HNm HPs hk3 hp;go_wp2_with fail;refine (yX _ f1 _ HN2.out).mono ?_;rintro e w3 ⟨s,rfl,hs,hs8,rfl⟩;have HI:=zd hs;clear hs;go_wp2_with fail;exact bodyPost_ret (v:=.agg #[.int .i64 3,.int .i64 0,.string ⟨#[]⟩,.string s,.slice none 0 0]) (by simp[results,Tryz.results34,go_sem,y0,y1,y2,y3,y4]) rfl ⟨⟨_,_,_,_,_,_,_,_,rfl,jF _ _ _ _ _ (by omega),Z3 (by omega) HI.out⟩,HSet.out _ _ _ _ _ _ HBw.out⟩
  have hp':0<(ps.length:Int):=by omega
  have hq:=yG r.a ps.length (by omega);obtain⟨pb,po,s,rfl,hpbk,hpc,hI,hs8⟩:∃pb po s,pa=some ⟨pb,po,none⟩/\pb<w.heap.size/\w2.cell? ⟨pb,po+qi r.a ps.length * 5,none⟩=some (.string s)/\zf s=true/\s.size<=8:=by
   obtain⟨_,pb,po,rfl,hpb,⟨hp1,_⟩,_⟩:=HPs.out.1.at (k:=qi r.a ps.length) (by omega);exact⟨pb,po,_,rfl,hS pb hpb,(HBw.out.cell (p:=⟨pb,po+qi r.a ps.length * 5,none⟩) (hS pb hpb)).trans hp1,HPs.out.2 _ (List.getElem_mem (by omega))⟩
  have HI:=zd hI;clear HNm HPs HN2 hk3 hI;go_wp2_with fail;refine (qR r.a f1 ps.length (by omega) (by omega) _).mono ?_;rintro e w1 ⟨rfl,rfl⟩;generalize qi r.a ps.length=q at hq hpc ⊢;go_wp2_with fail;exact bodyPost_ret (v:=.agg #[.int .i64 3,.int .i64 0,.string ⟨#[]⟩,.string s,.slice none 0 0]) (by simp[results,Tryz.results34,go_sem,y0,y1,y2,y3,y4]) rfl ⟨⟨_,_,_,_,_,_,_,_,rfl,jF _ _ _ _ _ (by omega),Z3 (by omega) HI.out⟩,HSet.out _ _ _ _ _ _ HBw.out⟩
 ·have hdl':5<=(d:Int):=by omega
  clear hk hdl;go_wp2_with fail;refine (qR r.kind f0 7 (by omega) (by omega) _).mono ?_;rintro e w1 ⟨rfl,rfl⟩;have hk7:=yG r.kind 7 (by omega);generalize qi r.kind 7=k at hk7 ⊢
  by_cases hk2:k<2
  ·have hk2':(k:Int)<2:=by omega
   clear HNm HPs HN2;go_wp2_with fail;refine (qR r.a f1 50 (by omega) (by omega) _).mono ?_;rintro e w1 ⟨rfl,rfl⟩;have hq:=yG r.a 50 (by omega);generalize qi r.a 50=q at hq ⊢;have HQ:=zd hq;clear hq;go_wp2_with fail;exact bodyPost_ret (v:=.agg #[.int .i64 1,.int .i64 q,.string ⟨#[]⟩,.string ⟨#[]⟩,.slice none 0 0]) (by simp[results,Tryz.results34,go_sem,y0,y1,y2,y3,y4]) rfl ⟨⟨_,_,_,_,_,_,_,_,rfl,jF _ _ _ _ _ (Nat.zero_le _),YM (by omega) (by omega) (by have:=HQ.out; omega)⟩,HSet.out _ _ _ _ _ _ HBw.out⟩
  have hk2':¬(k:Int)<2:=by omega
  by_cases hk3:k=2
  ·have hk3':((k:Int)==2)=true:=by simp; omega
   clear HNm HPs HN2 hk3;go_wp2_with fail;obtain⟨wq,hwq,hqb,hqc,hqs⟩:∃wq,w2.alloc (.cells #[.string ⟨#[]⟩,.string ⟨#[104,105]⟩,.string ⟨#[97,32,98]⟩,.string ⟨#[105,116,39,115]⟩] 9)=wq/\Below (w.heap.size+2) w2 wq/\(∃s:ByteArray,wq.cell? ⟨w2.heap.size,qi r.a 4,none⟩=some (.string s)/\yk s=true/\s.size<=20)/\w2.heap.size<wq.heap.size:=by
    refine⟨_,rfl,(Below.refl _ _).alloc (by omega) _,?_,by simp⟩;have hq:=yG r.a 4 (by omega);generalize qi r.a 4=q at hq ⊢;rw[cell_of_row _ _ _ _ _ _ (heap_alloc_new _ _)]
    match q,hq with
    |0,_=>exact⟨_,rfl,by decide +kernel,by decide⟩
    |1,_=>exact⟨_,rfl,by decide +kernel,by decide⟩
    |2,_=>exact⟨_,rfl,by decide +kernel,by decide⟩
    |3,_=>exact⟨_,rfl,by decide +kernel,by decide⟩
    |q+4,hq=>omega
   obtain⟨s,hqc,hI,hs8⟩:=hqc;rw[hs2] at hqc;have HI:=zd hI;obtain⟨⟨⟨x0,x1,x2,x3⟩,hbw,hsz⟩,⟨y0,y1,y2,y3,y4⟩,z0,z1,z2,z3,z4⟩:=HFacts.out wq hqb;have HBq:=zd hbw;clear hI hqb hbw;rw[hwq];clear hwq;refine (qR r.a f1 4 (by omega) (by omega) _).mono ?_;rintro e w1 ⟨rfl,rfl⟩;have hq:=yG r.a 4 (by omega);generalize qi r.a 4=q at hq hqc ⊢;go_wp2_with fail;exact bodyPost_ret (v:=.agg #[.int .i64 2,.int .i64 0,.string ⟨#[]⟩,.string s,.slice none 0 0]) (by simp[results,Tryz.results34,go_sem,y0,y1,y2,y3,y4]) rfl ⟨⟨_,_,_,_,_,_,_,_,rfl,jF _ _ _ _ _ hs8,VC (by omega) HI.out⟩,HSet.out _ _ _ _ _ _ HBq.out⟩
  have hk3':((k:Int)==2)=false:=by simp; omega
  have hk7':(k:Int)<7:=by omega
  by_cases hp:ps.length=0
  ·have hp':¬0<(ps.length:Int):=by omega
   clear HNm HPs hk3 hp;go_wp2_with fail;refine (yX _ f1 _ HN2.out).mono ?_;rintro e w3 ⟨s,rfl,hs,hs8,rfl⟩;have HI:=zd hs;clear hs;go_wp2_with fail;exact bodyPost_ret (v:=.agg #[.int .i64 3,.int .i64 0,.string ⟨#[]⟩,.string s,.slice none 0 0]) (by simp[results,Tryz.results34,go_sem,y0,y1,y2,y3,y4]) rfl ⟨⟨_,_,_,_,_,_,_,_,rfl,jF _ _ _ _ _ (by omega),Z3 (by omega) HI.out⟩,HSet.out _ _ _ _ _ _ HBw.out⟩
  have hp':0<(ps.length:Int):=by omega
  have hq:=yG r.a ps.length (by omega);obtain⟨pb,po,s,rfl,hpbk,hpc,hI,hs8⟩:∃pb po s,pa=some ⟨pb,po,none⟩/\pb<w.heap.size/\w2.cell? ⟨pb,po+qi r.a ps.length * 5,none⟩=some (.string s)/\zf s=true/\s.size<=8:=by
   obtain⟨_,pb,po,rfl,hpb,⟨hp1,_⟩,_⟩:=HPs.out.1.at (k:=qi r.a ps.length) (by omega);exact⟨pb,po,_,rfl,hS pb hpb,(HBw.out.cell (p:=⟨pb,po+qi r.a ps.length * 5,none⟩) (hS pb hpb)).trans hp1,HPs.out.2 _ (List.getElem_mem (by omega))⟩
  have HI:=zd hI;clear HNm HPs HN2 hk3 hI;go_wp2_with fail;refine (qR r.a f1 ps.length (by omega) (by omega) _).mono ?_;rintro e w1 ⟨rfl,rfl⟩;generalize qi r.a ps.length=q at hq hpc ⊢;go_wp2_with fail;exact bodyPost_ret (v:=.agg #[.int .i64 3,.int .i64 0,.string ⟨#[]⟩,.string s,.slice none 0 0]) (by simp[results,Tryz.results34,go_sem,y0,y1,y2,y3,y4]) rfl ⟨⟨_,_,_,_,_,_,_,_,rfl,jF _ _ _ _ _ (by omega),Z3 (by omega) HI.out⟩,HSet.out _ _ _ _ _ _ HBw.out⟩
theorem zgl (d:Nat) (hd:1<=d) (hd5:d<=5) (HRec:Hid (∀(S:Nat->Prop) (l:List Rw) (v:Value) (ps:List Fd) (pv:Value) (w:World),(∀b,S b->b<w.heap.size)->ze S (qK w) 4 l v->kZ S w ps pv->qz w->
   Calls Tryz.prog 34 #[v,pv,.int .i64 ((d:Int)+1)] w fun e w'=>xQ w.heap.size (d+1) e w'/\Below w.heap.size w w'))
  (S:Nat->Prop) (r:Rw) (l:List Rw) (v:Value) (ps:List Fd) (pv:Value) (w:World) (hS:∀b,S b->b<w.heap.size) (hv:ze S (qK w) 4 (r::l) v) (hps:kZ S w ps pv) (hnm:qz w) (hdl:d<5) (hk:7<=qi r.kind 16) (hk12:qi r.kind 16<12) :
  Calls Tryz.prog 34 #[v,pv,.int .i64 d] w fun e w'=>xQ w.heap.size d e w'/\Below w.heap.size w w':=by
 have hlen:=hv.len;unfold maxLen at hlen;have HV:=zd hv;have HNm:=zd hnm;have HPs:=zd hps;obtain⟨a,cap,rfl,hcap⟩:=hv.isCap;obtain⟨pa,pcap,rfl,hpcap⟩:=hps.1.isCap;have hplen:=hps.1.len;unfold maxLen at hplen;clear hv hnm hps;obtain⟨_,b,off,rfl,hb,⟨⟨a0,a1,a2,a3⟩,f0,f1,f2,f3⟩⟩:=HV.out.at (k:=0) (by simp);have hbk:=hS b hb;simp only[List.getElem_cons_zero,Nat.zero_mul,Nat.add_zero] at a0 a1 a2 a3 f0 f1 f2 f3;have hcap':l.length+1<=cap:=hcap;have hl0:((l.length:Int)+1==0)=false:=by simp; omega
 obtain⟨a',cap',hrun,hpart⟩:∃a' cap',(∀W,(Instr.slice 34 (.slice (some ⟨b,off,none⟩) (l.length+1) cap) (some (.int .i64 1)) none none).run Tryz.prog W=.ok (.slice a' l.length cap') W)/\ze S (qK w) 4 l (.slice a' l.length cap'):=by
  obtain⟨a',cap',hsl,hpart⟩:=yW HV.out (i:=1) (j:=l.length+1) (by omega) (Nat.le_refl _);rw[Nat.add_sub_cancel] at hsl hpart;have e1:((r::l).drop 1).take l.length=l:=by simp
  rw[e1] at hpart;exact⟨a',cap',fun W=>by rw[Zs (some ⟨b,off,none⟩) (l.length+1) cap 1 1 rfl (by omega) W,hsl],hpart⟩
 have hlen':l.length+1<=9223372036854775807:=hlen;obtain⟨h,hh,hh'⟩:∃h:Nat,(l.length:Int) / 2=h/\h<=l.length:=⟨l.length / 2,by omega,by omega⟩
 obtain⟨a'',cap'',e',⟨hc1,hc2⟩,_⟩:=id hpart;injection e' with e1 e2 e3
 subst e1 e3;obtain⟨ah,ch,hrunh,hparth⟩:∃ah ch,(∀W,(Instr.slice 34 (.slice a' l.length cap') none (some (.int .i64 ((l.length:Int) / 2))) none).run Tryz.prog W=.ok (.slice ah h ch) W)/\ze S (qK w) 4 (l.take h) (.slice ah h ch):=by
  obtain⟨ah,ch,hsl,hp⟩:=yW hpart (i:=0) (j:=h) (by omega) hh';rw[Nat.sub_zero,List.drop_zero] at hp;rw[Nat.sub_zero] at hsl;exact⟨ah,ch,fun W=>by rw[zba a' l.length cap' h _ hh (by omega) W,hsl],hp⟩
 obtain⟨ao,co,m,hruno,hparto⟩:∃ao co m,(∀W,(Instr.slice 34 (.slice a' l.length cap') (some (.int .i64 ((l.length:Int) / 2))) none none).run Tryz.prog W=.ok (.slice ao m co) W)/\ze S (qK w) 4 ((l.drop h).take m) (.slice ao m co):=by
  obtain⟨ao,co,hsl,hp⟩:=yW hpart (i:=h) (j:=l.length) hh' (Nat.le_refl _);exact⟨ao,co,_,fun W=>by rw[Zs a' l.length cap' h _ hh hh' W,hsl],hp⟩
 have HPh:=zd hparth;have HPo:=zd hparto;clear hpart hparth hparto HV hcap hlen hc1 hc2;have hle1:¬(l.length:Int) / 2<0:=by omega
 clear hh;show Calls Tryz.prog 34 #[.slice (some ⟨b,off,none⟩) (l.length+1) cap,.slice pa ps.length pcap,.int .i64 d] w _;obtain⟨w2,hwe,hs2,hbox,hres,hbel⟩:∃w2,(w.alloc (.cells #[.int .i64 0,.int .i64 0,.string ⟨#[]⟩,.string ⟨#[]⟩,.slice none 0 0] 70)).alloc (.cells #[.int .i64 r.kind,.int .i64 r.a,.int .i64 r.b,.int .i64 r.c] 91)=w2/\w2.heap.size=w.heap.size+2/\
   w2.heap[w.heap.size+1]? = some (.cells #[.int .i64 r.kind,.int .i64 r.a,.int .i64 r.b,.int .i64 r.c] 91 (0,0))/\w2.heap[w.heap.size]? = some (.cells #[.int .i64 0,.int .i64 0,.string ⟨#[]⟩,.string ⟨#[]⟩,.slice none 0 0] 70 (0,0))/\Below w.heap.size w w2:=by
  refine⟨_,rfl,by simp,?_,?_,((Below.refl _ _).alloc (Nat.le_refl _) _).alloc (by simp) _⟩
  ·have:=heap_alloc_new (w.alloc (.cells #[.int .i64 0,.int .i64 0,.string ⟨#[]⟩,.string ⟨#[]⟩,.slice none 0 0] 70)) (.cells #[.int .i64 r.kind,.int .i64 r.a,.int .i64 r.b,.int .i64 r.c] 91)
   simpa using this
  ·have hb1:Below (w.heap.size+1) (w.alloc (.cells #[.int .i64 0,.int .i64 0,.string ⟨#[]⟩,.string ⟨#[]⟩,.slice none 0 0] 70)) ((w.alloc (.cells #[.int .i64 0,.int .i64 0,.string ⟨#[]⟩,.string ⟨#[]⟩,.slice none 0 0] 70)).alloc (.cells #[.int .i64 r.kind,.int .i64 r.a,.int .i64 r.b,.int .i64 r.c] 91)):=(Below.refl _ _).alloc (by simp) _
   exact (hb1.block _ (by omega)).trans (heap_alloc_new _ _)
 have HFacts:Hid (∀W,Below (w.heap.size+2) w2 W->((W.cell? ⟨w.heap.size+1,0,none⟩=some (.int .i64 r.kind)/\W.cell? ⟨w.heap.size+1,1,none⟩=some (.int .i64 r.a)/\W.cell? ⟨w.heap.size+1,2,none⟩=some (.int .i64 r.b)/\W.cell? ⟨w.heap.size+1,3,none⟩=some (.int .i64 r.c))/\Below w.heap.size w W/\w.heap.size+2<=W.heap.size)/\
   (W.cell? ⟨w.heap.size,0,none⟩=some (.int .i64 0)/\W.cell? ⟨w.heap.size,1,none⟩=some (.int .i64 0)/\W.cell? ⟨w.heap.size,2,none⟩=some (.string ⟨#[]⟩)/\W.cell? ⟨w.heap.size,3,none⟩=some (.string ⟨#[]⟩)/\W.cell? ⟨w.heap.size,4,none⟩=some (.slice none 0 0))/\
   W.frozen? ⟨w.heap.size,0,none⟩=false/\W.frozen? ⟨w.heap.size,1,none⟩=false/\W.frozen? ⟨w.heap.size,2,none⟩=false/\W.frozen? ⟨w.heap.size,3,none⟩=false/\W.frozen? ⟨w.heap.size,4,none⟩=false):=fun W h=>by
  have g1:=(h.block (w.heap.size+1) (by omega)).trans hbox;have g2:=(h.block w.heap.size (by omega)).trans hres;have hsz:=h.size;refine⟨⟨⟨?_,?_,?_,?_⟩,hbel.trans (h.mono (by omega)),by omega⟩,⟨?_,?_,?_,?_,?_⟩,?_,?_,?_,?_,?_⟩
  all_goals first|(rw[cell_of_row _ _ _ _ _ _ g1]; rfl)|(rw[cell_of_row _ _ _ _ _ _ g2]; rfl)|exact frozen_of_row _ _ _ _ _ g2
 have HWe:=zd hwe;have HSet:Hid (∀W u0 u1 u2 u3 u4,Below w.heap.size w W->Below w.heap.size w (yY W w.heap.size u0 u1 u2 u3 u4)):=fun W u0 u1 u2 u3 u4 h=>ko h u0 u1 u2 u3 u4
 obtain⟨⟨⟨x0,x1,x2,x3⟩,hbw,hsz⟩,⟨y0,y1,y2,y3,y4⟩,z0,z1,z2,z3,z4⟩:=HFacts.out w2 (Below.refl _ _);have HBw:=zd hbw;have HN2:=zd (HNm.out.keep HBw.out);clear hwe hbox hres hbel hbw;go_enter Tryz.func34,Tryz.ntmps34;go_wp2_with fail;rw[HWe.out];refine (qR r.kind f0 16 (by omega) (by omega) _).mono ?_;rintro e w1 ⟨rfl,rfl⟩;have hdl':¬5<=(d:Int):=by omega
 generalize qi r.kind 16=k at hk hk12 ⊢;have hk2':¬(k:Int)<2:=by omega
 have hk3':((k:Int)==2)=false:=by simp; omega
 have hk7':¬(k:Int)<7:=by omega
 have HR:Hid (∀W,Below w.heap.size w W->∀l v,ze S (qK w) 4 l v->Calls Tryz.prog 34 #[v,.slice pa ps.length pcap,.int .i64 ((d:Int)+1)] W fun e w'=>xQ W.heap.size (d+1) e w'/\Below W.heap.size W w'):=fun W hb l v hv=>
  HRec.out S l v ps _ W (fun b h=>Nat.lt_of_lt_of_le (hS b h) hb.size) (vO (Keeps.below hb hS) hv) ⟨HPs.out.1.imp (fun _ h=>h) fun _ _ _ _ hb' h=>qO.keep (Keeps.below hb hS) hb' h,HPs.out.2⟩ (HNm.out.keep hb)
 clear HRec HPs HNm HN2 HSet f0 f1 f2 f3 a0 a1 a2 a3 hrun hrunh hruno
 by_cases hk10:k<10
 ·have hk10':(k:Int)<10:=by omega
  clear hk10;go_wp2_with fail;refine (HR.out w2 HBw.out _ _ HPh.out).mono ?_;rintro e w3 ⟨⟨t,k1,q1,f1',s1,b1,m1,c1,rfl,hcs,hft⟩,hb3⟩;obtain⟨⟨_,hbw3,hsz3⟩,_⟩:=HFacts.out w3 (by rw[hs2] at hb3; exact hb3);have HB3:=zd hb3;have HBw3:=zd hbw3;have HCs:=zd hcs;have HFt:=zd hft;clear hb3 hcs hft hbw3 x0 x1 x2 x3 y0 y1 y2 y3 y4 z0 z1 z2 z3 z4;go_wp2_with fail;refine (HR.out w3 HBw3.out _ _ HPo.out).mono ?_;rintro e w4 ⟨⟨t2,k2,q2,f2',s2,b2,m2,c2,rfl,hcs2,hft2⟩,hb4⟩;have HB4:Hid (Below (w.heap.size+2) w2 w4):=by
   have h3:=HB3.out;rw[hs2] at h3;exact h3.trans (hb4.mono hsz3)
  obtain⟨⟨_,hbw4,hsz4⟩,⟨y0,y1,y2,y3,y4⟩,z0,z1,z2,z3,z4⟩:=HFacts.out w4 HB4.out;have hlt4:w.heap.size<w4.heap.size:=by omega
  have HCs1:Hid (xP (zm (w.heap.size+1) w4) w4 t k1 q1 f1' s1 (.slice b1 m1 c1)):=HCs.out.keep ⟨fun b hb=>hb4.block b hb.2,fun b hb=>⟨by have:=hb.1; omega,Nat.lt_of_lt_of_le hb.2 hb4.size⟩⟩;have HCs2:Hid (xP (zm (w.heap.size+1) w4) w4 t2 k2 q2 f2' s2 (.slice b2 m2 c2)):=hcs2.keep ⟨fun _ _=>rfl,fun b hb=>⟨by have:=hb.1; omega,hb.2⟩⟩;have HFt2:=zd (YN (d:=d) (k:=5) (by omega) (by omega) HFt.out hft2);have HBw4:=zd hbw4;have HM:Hid (∀o u0 u1 u2 u3 u4,Below w.heap.size w ((yY w4 w.heap.size u0 u1 u2 u3 u4).alloc o)):=fun o u0 u1 u2 u3 u4=>(ko HBw4.out _ _ _ _ _).alloc (by rw[Qj]; omega) _
  clear hb4 hcs2 hft2 hbw4 HCs HFt HR HPh HPo HB3 HB4 HBw3 HFacts;go_wp2_with fail;exact bodyPost_ret (v:=.agg #[.int .i64 5,.int .i64 0,.string ⟨#[]⟩,.string ⟨#[]⟩,.slice (some ⟨w4.heap.size,0,none⟩) 2 2]) (by simp[results,Tryz.results34,go_sem,y0,y1,y2,y3,y4,hlt4]) rfl ⟨⟨_,_,_,_,_,_,_,_,rfl,Xp HCs1.out HCs2.out _ _ _ _ _ _ hlt4,HFt2.out⟩,HM.out _ _ _ _ _ _⟩
 have hk10':¬(k:Int)<10:=by omega
 by_cases hk11:k=10
 ·have hk11':((k:Int)==10)=true:=by simp; omega
  clear hk11 hk10;go_wp2_with fail;refine (HR.out w2 HBw.out _ _ HPh.out).mono ?_;rintro e w3 ⟨⟨t,k1,q1,f1',s1,b1,m1,c1,rfl,hcs,hft⟩,hb3⟩;obtain⟨⟨_,hbw3,hsz3⟩,_⟩:=HFacts.out w3 (by rw[hs2] at hb3; exact hb3);have HB3:=zd hb3;have HBw3:=zd hbw3;have HCs:=zd hcs;have HFt:=zd hft;clear hb3 hcs hft hbw3 x0 x1 x2 x3 y0 y1 y2 y3 y4 z0 z1 z2 z3 z4;go_wp2_with fail;refine (HR.out w3 HBw3.out _ _ HPh.out).mono ?_;rintro e w4 ⟨⟨t2,k2,q2,f2',s2,b2,m2,c2,rfl,hcs2,hft2⟩,hb4⟩;have HB4:Hid (Below (w.heap.size+2) w2 w4):=by
   have h3:=HB3.out;rw[hs2] at h3;exact h3.trans (hb4.mono hsz3)
  obtain⟨⟨_,hbw4,hsz4⟩,⟨y0,y1,y2,y3,y4⟩,z0,z1,z2,z3,z4⟩:=HFacts.out w4 HB4.out;have hlt4:w.heap.size<w4.heap.size:=by omega
  have HCs1:Hid (xP (zm (w.heap.size+1) w4) w4 t k1 q1 f1' s1 (.slice b1 m1 c1)):=HCs.out.keep ⟨fun b hb=>hb4.block b hb.2,fun b hb=>⟨by have:=hb.1; omega,Nat.lt_of_lt_of_le hb.2 hb4.size⟩⟩;have HCs2:Hid (xP (zm (w.heap.size+1) w4) w4 t2 k2 q2 f2' s2 (.slice b2 m2 c2)):=hcs2.keep ⟨fun _ _=>rfl,fun b hb=>⟨by have:=hb.1; omega,hb.2⟩⟩;have HFt2:=zd (YN (d:=d) (k:=6) (by omega) (by omega) HFt.out hft2);have HBw4:=zd hbw4;have HM:Hid (∀o u0 u1 u2 u3 u4,Below w.heap.size w ((yY w4 w.heap.size u0 u1 u2 u3 u4).alloc o)):=fun o u0 u1 u2 u3 u4=>(ko HBw4.out _ _ _ _ _).alloc (by rw[Qj]; omega) _
  clear hb4 hcs2 hft2 hbw4 HCs HFt HR HPh HPo HB3 HB4 HBw3 HFacts;go_wp2_with fail;exact bodyPost_ret (v:=.agg #[.int .i64 6,.int .i64 0,.string ⟨#[]⟩,.string ⟨#[]⟩,.slice (some ⟨w4.heap.size,0,none⟩) 2 2]) (by simp[results,Tryz.results34,go_sem,y0,y1,y2,y3,y4,hlt4]) rfl ⟨⟨_,_,_,_,_,_,_,_,rfl,Xp HCs1.out HCs2.out _ _ _ _ _ _ hlt4,HFt2.out⟩,HM.out _ _ _ _ _ _⟩
 ·have hk11':((k:Int)==10)=false:=by simp; omega
  have hk12':((k:Int)==11)=true:=by simp; omega
  clear hk11 hk10;go_wp2_with fail;refine (HR.out w2 HBw.out _ _ HPh.out).mono ?_;rintro e w3 ⟨⟨t,k1,q1,f1',s1,b1,m1,c1,rfl,hcs,hft⟩,hb3⟩;obtain⟨⟨_,hbw3,hsz3⟩,_⟩:=HFacts.out w3 (by rw[hs2] at hb3; exact hb3);have HB3:=zd hb3;have HBw3:=zd hbw3;have HCs:=zd hcs;have HFt:=zd hft;clear hb3 hcs hft hbw3 x0 x1 x2 x3 y0 y1 y2 y3 y4 z0 z1 z2 z3 z4;go_wp2_with fail;refine (HR.out w3 HBw3.out _ _ HPo.out).mono ?_;rintro e w4 ⟨⟨t2,k2,q2,f2',s2,b2,m2,c2,rfl,hcs2,hft2⟩,hb4⟩;have HB4:Hid (Below (w.heap.size+2) w2 w4):=by
   have h3:=HB3.out;rw[hs2] at h3;exact h3.trans (hb4.mono hsz3)
  obtain⟨⟨_,hbw4,hsz4⟩,⟨y0,y1,y2,y3,y4⟩,z0,z1,z2,z3,z4⟩:=HFacts.out w4 HB4.out;have hlt4:w.heap.size<w4.heap.size:=by omega
  have HCs1:Hid (xP (zm (w.heap.size+1) w4) w4 t k1 q1 f1' s1 (.slice b1 m1 c1)):=HCs.out.keep ⟨fun b hb=>hb4.block b hb.2,fun b hb=>⟨by have:=hb.1; omega,Nat.lt_of_lt_of_le hb.2 hb4.size⟩⟩;have HCs2:Hid (xP (zm (w.heap.size+1) w4) w4 t2 k2 q2 f2' s2 (.slice b2 m2 c2)):=hcs2.keep ⟨fun _ _=>rfl,fun b hb=>⟨by have:=hb.1; omega,hb.2⟩⟩;have HFt2:=zd (YN (d:=d) (k:=7) (by omega) (by omega) HFt.out hft2);have HBw4:=zd hbw4;have HM:Hid (∀o u0 u1 u2 u3 u4,Below w.heap.size w ((yY w4 w.heap.size u0 u1 u2 u3 u4).alloc o)):=fun o u0 u1 u2 u3 u4=>(ko HBw4.out _ _ _ _ _).alloc (by rw[Qj]; omega) _
  clear hb4 hcs2 hft2 hbw4 HCs HFt HR HPh HPo HB3 HB4 HBw3 HFacts;go_wp2_with fail;exact bodyPost_ret (v:=.agg #[.int .i64 7,.int .i64 0,.string ⟨#[]⟩,.string ⟨#[]⟩,.slice (some ⟨w4.heap.size,0,none⟩) 2 2]) (by simp[results,Tryz.results34,go_sem,y0,y1,y2,y3,y4,hlt4]) rfl ⟨⟨_,_,_,_,_,_,_,_,rfl,Xp HCs1.out HCs2.out _ _ _ _ _ _ hlt4,HFt2.out⟩,HM.out _ _ _ _ _ _⟩
structure CallAt (base X:Nat) (o s:ByteArray) (d:Nat) (xs:List Ex) (v:Value) (ys:List Value) (Wb W:World):Prop where
 box:W.heap[X]? = some (.cells #[.int .i64 4,.int .i64 0,.string o,.string s,v] 70 (0,0))
 own:W.ownsRow base 70 5 v xs.length ys
 items:∀j (hj:j<xs.length),∃cs,cs.length=5/\(∀t,t<5->ys[j * 5+t]? = cs[t]?)/\ExC (vA base v W) W xs[j] cs
 ok:∀x∈xs,zx x (d+1)=0
 below:Below X Wb W
 room:base<=W.heap.size
theorem Zt {base X:Nat} {o s:ByteArray} {d:Nat} {xs:List Ex} {v:Value} {ys cs:List Value} {Wb W W5 w1:World} {g cap:Nat} {x:Ex} (h:CallAt base X o s d xs v ys Wb W) (hXb:X<base) (hb5:Below W.heap.size W W5) (hg:W5.grownBy w1 v.ownBlock)
  (hown1:w1.ownsRow base 70 5 (.slice (some ⟨g,0,none⟩) (xs.length+1) cap) (xs.length+1) (ys++cs)) (hat:v.ownBlock=some g\/g=W5.heap.size) (hcs:cs.length=5) (hx:ExC (zm W.heap.size W5) W5 x cs) (hok:zx x (d+1)=0) :
  CallAt base X o s d (xs++[x]) (.slice (some ⟨g,0,none⟩) (xs.length+1) cap) (ys++cs) Wb (w1.setCell ⟨X,4,none⟩ (.slice (some ⟨g,0,none⟩) (xs.length+1) cap)):=by
 have e:(xs++[x]).length=xs.length+1:=by simp
 have hyl:ys.length=xs.length * 5:=h.own.1;have hroom:=h.room;have hs5:=hb5.size;have hs1:=hg.size;have hin:∀b,v.ownBlock=some b->base<=b/\b<W.heap.size:=fun b hb=>zk h.own b hb
 have hXW:X<W.heap.size:=by omega
 have hX1:w1.heap[X]? = some (.cells #[.int .i64 4,.int .i64 0,.string o,.string s,v] 70 (0,0)):=(hg.block X (by omega) (fun e=>by have:=hin X e.symm; omega)).trans ((hb5.block X hXW).trans h.box);have hsz:(w1.setCell ⟨X,4,none⟩ (.slice (some ⟨g,0,none⟩) (xs.length+1) cap)).heap.size=w1.heap.size:=zT _ _ _;have hold:∀b,b<W5.heap.size->b≠X->v.ownBlock≠some b->(w1.setCell ⟨X,4,none⟩ (.slice (some ⟨g,0,none⟩) (xs.length+1) cap)).heap[b]? = W5.heap[b]?:=fun b hb hne hnb=>by
  rw[Below.heap_setCell _ _ _ _ hne,hg.block b hb (fun e=>hnb e.symm)]
 have hgb:∀b,(Value.slice (some ⟨g,0,none⟩) (xs.length+1) cap).ownBlock=some b->b=g:=fun b hb=>by simpa [Value.ownBlock] using hb.symm
 have hk:Keeps (vA base v W) (vA base (.slice (some ⟨g,0,none⟩) (xs.length+1) cap) (w1.setCell ⟨X,4,none⟩ (.slice (some ⟨g,0,none⟩) (xs.length+1) cap))) W (w1.setCell ⟨X,4,none⟩ (.slice (some ⟨g,0,none⟩) (xs.length+1) cap)):=
  ⟨fun b hb=>by
   obtain⟨h1,h2,h3⟩:=hb;rw[hold b (by omega) (by omega) h3,hb5.block b h2],fun b hb=>by
   obtain⟨h1,h2,h3⟩:=hb;refine⟨h1,by rw[hsz]; omega,fun e=>?_⟩;have:=hgb b e;subst this
   rcases hat with h4|h4
   ·exact h3 h4
   ·omega⟩
 have hk5:Keeps (zm W.heap.size W5) (vA base (.slice (some ⟨g,0,none⟩) (xs.length+1) cap) (w1.setCell ⟨X,4,none⟩ (.slice (some ⟨g,0,none⟩) (xs.length+1) cap))) W5 (w1.setCell ⟨X,4,none⟩ (.slice (some ⟨g,0,none⟩) (xs.length+1) cap)):=
  ⟨fun b hb=>by
   obtain⟨h1,h2⟩:=hb;exact hold b h2 (by omega) (fun e=>by have:=hin b e; omega),fun b hb=>by
   obtain⟨h1,h2⟩:=hb;refine⟨by omega,by rw[hsz]; omega,fun e=>?_⟩;have:=hgb b e;subst this
   rcases hat with h4|h4
   ·have:=hin b h4; omega
   ·omega⟩
 refine⟨?_,?_,?_,?_,?_,by rw[hsz]; omega⟩
 ·rw[vM hX1]; rfl
 ·rw[e]; exact ownsRow_setCell_below hown1 (a:=⟨X,4,none⟩) hXb _
 ·intro j hj
  by_cases hjx:j<xs.length
  ·obtain⟨c,h1,h2,h3⟩:=h.items j hjx
   refine⟨c,h1,fun t ht=>?_,?_⟩
   ·rw[List.getElem?_append_left (by omega)]
    exact h2 t ht
   ·rw[List.getElem_append_left hjx]
    exact vT hk h3
  ·have hje:j=xs.length:=by omega
   subst hje;refine⟨cs,hcs,fun t _=>?_,?_⟩
   ·rw[List.getElem?_append_right (by omega),hyl]
    congr 1
    omega
   ·rw[List.getElem_append_right (Nat.le_refl _)]
    simp only[Nat.sub_self,List.getElem_cons_zero];exact vT hk5 hx
 ·intro y hy
  rcases List.mem_append.1 hy with h1|h1
  ·exact h.ok y h1
  ·rw[List.mem_singleton.1 h1]; exact hok
 ·exact h.below.trans ⟨hg.os.trans hb5.os,hg.tape.trans hb5.tape,hg.output.trans hb5.output,by rw[hsz]; omega,fun c hc=>by
   rw[hold c (by omega) (by omega) (fun e=>by have:=hin c e; omega),hb5.block c (by omega)]⟩
theorem zeK:∀{xs:List Ex} {d:Nat},(∀x∈xs,zx x d=0)->xO xs d=0
 |[],_,_=>by rw[xO]
 |x::r,d,h=>by rw[xO,if_pos (h x (by simp))]; exact zeK (fun y hy=>h y (by simp[hy]))
theorem Jy {d:Nat} {o s:ByteArray} {xs:List Ex} (h:d<=10) (hs:zf s=true) (ho:zD o=true) (hl:xs.length<=8) (hx:∀x∈xs,zx x (d+1)=0):zx (.mk 4 0 o s xs) d=0:=by
 rw[zx,if_neg (by omega),if_neg (by decide),if_neg (by omega),if_neg (by simp[xl,qe,hs,ho]),if_neg (by decide)];exact zeK hx
theorem Xe {base X n d:Nat} {o s:ByteArray} {xs:List Ex} {v:Value} {ys:List Value} {Wb W:World} (h:CallAt base X o s d xs v ys Wb W) (hn:n<X) (hXb:X<base) (ho:o.size<=8) (hs:s.size<=8) (hl:xs.length<=8) (u0 u1 u2 u3 u4:Value) :
  ∃a m cap,v=.slice a m cap/\xP (zm n (yY W n u0 u1 u2 u3 u4)) (yY W n u0 u1 u2 u3 u4) (.mk 4 0 o s xs) 4 0 o s (.slice a m cap):=by
 have hroom:=h.room;have hsz:=Qj W n u0 u1 u2 u3 u4;have hk:Keeps (vA base v W) (zm n (yY W n u0 u1 u2 u3 u4)) W (yY W n u0 u1 u2 u3 u4):=⟨fun b hb=>by
   have:=hb.1;exact X0 _ _ _ _ _ _ _ (by omega),fun b hb=>⟨by have:=hb.1; omega,by rw[hsz]; exact hb.2.1⟩⟩
 rcases h.own.2 with ⟨h1,h2⟩|⟨g,cap,cur,h1,hb,hg,hc,hm,_⟩
 ·have hx0:xs=[]:=List.eq_nil_of_length_eq_zero h2
  subst hx0;subst h1;exact⟨none,0,0,rfl,[],rfl,by unfold maxLen; omega,by unfold maxLen; omega,none,0,rfl,⟨by simp,by simp⟩,Or.inl rfl⟩
 ·subst h1
  refine⟨_,_,_,rfl,xs,rfl,by unfold maxLen; omega,by unfold maxLen; omega,_,cap,rfl,⟨by unfold maxLen; omega,hc⟩,Or.inr ⟨g,0,rfl,⟨by omega,by rw[hsz]; exact vQ hg⟩,qA.mk fun j hj=>?_⟩⟩;obtain⟨cs,h3,h4,h5⟩:=h.items j hj;refine zek h3 (vT hk h5) (fun t u hu=>?_);have ht:t<5:=by rw[<- h3]; exact (List.getElem?_eq_some_iff.1 hu).1
  rw[Nat.zero_add];have hcell:=kW h.own _ _ ((h4 t ht).trans hu);exact (World.cell?_of_block (a:=⟨g,j * 5+t,none⟩) (X0 W n u0 u1 u2 u3 u4 (b:=g) (by omega))).trans hcell
end Go.Proofs.YtedpiamfpbdhoaaGreatDoor
