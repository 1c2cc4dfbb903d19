/- What a module shows others may be, whatever is wrong with it; and each thing wrong is of something that it has (FacesGood), without conditions. The card is tied to the program's text. -/
import Derived.Test.YtedpiamfpbdhoaaGreatDoorJFg15
import Derived.Test.YtedpiamfpbdhoaaGreatDoorJFg28
import Derived.Test.YtedpiamfpbdhoaaGreatDoorRows
import Derived.Test.YtedpiamfpbdhoaaGreatDoorTie
import Derived.Test.YtedpiamfpbdhoaaGreatDoorCards
import Derived.Test.YtedpiamfpbdhoaaGreatDoorRowFacesGood
import Derived.OpenShut
import Derived.ShutString
import Derived.ChangeOld
import Derived.Lay
import Derived.LaidMore
import Derived.Stop.Joined
import Derived.SevenTiedAt
import Derived.Lib.LaidTab
import Derived.Stop.LaidErr
set_option maxHeartbeats 40000000
set_option maxRecDepth 100000
namespace Go.Proofs.YtedpiamfpbdhoaaGreatDoor.facesGood
open Go.RowKit
theorem zaq {S:Nat->Prop} {w:World} {m:Mo} {v:Value} (h:qT S w m v):∃a1 c1 a2 c2 a3 c3,v=.agg #[.slice a1 m.uses.length c1,.slice a2 m.types.length c2,.slice a3 m.funcs.length c3]:=by
 obtain⟨vu,vt,vf,rfl,⟨a1,c1,rfl,_⟩,⟨a2,c2,rfl,_⟩,⟨a3,c3,rfl,_⟩⟩:=h;exact⟨a1,c1,a2,c2,a3,c3,rfl⟩
def FgS (w8:World) (B:Nat) (x y:Value) (W:World):Prop:=Below w8.heap.size w8 W/\W.cell? ⟨B,0,none⟩=some x/\W.cell? ⟨B,1,none⟩=some y
theorem FgS.later {w8:World} {B:Nat} {x y:Value} {W W':World} (h:FgS w8 B x y W) (hb:Below W.heap.size W W'):FgS w8 B x y W':=
 ⟨h.1.trans (hb.mono h.1.size),(hb.cell (World.block_lt_of_cell? _ _ h.2.1)).trans h.2.1,(hb.cell (World.block_lt_of_cell? _ _ h.2.2)).trans h.2.2⟩
theorem FgS.below {w8:World} {B:Nat} {x y:Value} {W:World} (h:FgS w8 B x y W):Below w8.heap.size w8 W:=h.1
theorem walk (v1 v2:Value) (l m:List Rw) (w:World) (hv:ze (fun b=>b<w.heap.size) (qK w) 4 l v1) (hv2:ze (fun b=>b<w.heap.size) (qK w) 4 m v2) (hnm:qz w) (htab:Zr w.heap.size w) :
  Calls Tryz.prog 4 #[v1,v2] w fun e w'=>e=.returned (.bool true)/\Below w.heap.size w w':=by
 have HMo:Hid (Calls Tryz.prog 10 #[v1] w fun e w'=>∃mo u,e=.returned u/\qT (fun b=>b<w'.heap.size) w' mo u/\(zI mo=0/\mo.uses.length+mo.types.length+mo.funcs.length<=9)/\Below w.heap.size w w'):=
  JB (fun b=>b<w.heap.size) l v1 w (fun _ h=>h) hv hnm
 have HMo2:Hid (∀W,Below w.heap.size w W->Calls Tryz.prog 10 #[v2] W fun e w'=>∃mo u,e=.returned u/\qT (fun b=>b<w'.heap.size) w' mo u/\(zI mo=0/\mo.uses.length+mo.types.length+mo.funcs.length<=9)/\Below W.heap.size W w'):=fun W hW=>
  JB (fun b=>b<W.heap.size) m v2 W (fun _ h=>h) (vO (S':=fun b=>b<W.heap.size) ⟨fun b hb=>hW.block b hb,fun b hb=>Nat.lt_of_lt_of_le hb hW.size⟩ hv2) (hnm.keep hW)
 have HShow:Hid (∀(mo:Mo) (u:Value) (W:World),Below w.heap.size w W->qT (fun b=>b<W.heap.size) W mo u->zI mo=0->mo.uses.length+mo.types.length+mo.funcs.length<4611686018427387904->Calls Tryz.prog 9 #[u] W fun e w'=>e=.returned (.tuple #[.string (XG mo),.int .i64 0])/\Below W.heap.size W w'):=fun mo u W hW hm hf hc=>by
  have hk:=htab.keep hW;have hk2:Zr W.heap.size W:=by
   obtain⟨g,h1,h2,h3⟩:=hk;exact⟨g,h1,Nat.lt_of_lt_of_le h2 hW.size,h3⟩
  have:=za8 (fun b=>b<W.heap.size) mo u W (fun _ h=>h) hm hk2 hc;rw[hf] at this;exact this
 obtain⟨va,vn,vc,rfl⟩:=hv.slice;obtain⟨va2,vn2,vc2,rfl⟩:=hv2.slice;clear hv hv2 hnm htab;go_enter Tryz.func4,Tryz.ntmps4;go_wp2_with fail;refine HMo.out.mono ?_;rintro e w1 ⟨mo,u,rfl,hmo,⟨hf,hlen⟩,hb1⟩;obtain⟨a1,c1,a2,c2,a3,c3,rfl⟩:=zaq hmo;have HS1:=zd (HShow.out mo _ w1 hb1 hmo hf (by omega));have HB1:=zd hb1;clear hmo hb1 HMo;go_wp2_with fail;refine HS1.out.mono ?_;rintro e w2 ⟨rfl,hb2⟩;have HB2:=zd (HB1.out.trans (hb2.mono HB1.out.size));clear hb2 HS1 hf hlen;generalize mo.uses.length=n1 at *;generalize mo.types.length=n2 at *;generalize mo.funcs.length=n3 at *;generalize XG mo=sx at *;go_wp2_with fail;refine (HMo2.out _ HB2.out).mono ?_;rintro e w3 ⟨mo2,u2,rfl,hmo2,⟨hf2,hlen2⟩,hb3⟩;obtain⟨b1,d1,b2,d2,b3,d3,rfl⟩:=zaq hmo2;have hb3':=HB2.out.trans (hb3.mono HB2.out.size);have HS3:=zd (HShow.out mo2 _ w3 hb3' hmo2 hf2 (by omega));have HB3:=zd hb3';clear hmo2 hb3 hb3' HMo2;go_wp2_with fail;refine HS3.out.mono ?_;rintro e w4 ⟨rfl,hb4⟩;have HB4:=zd (HB3.out.trans (hb4.mono HB3.out.size));clear hb4 HS3 hf2 hlen2 HShow HB1 HB2 HB3;generalize mo2.uses.length=k1 at *;generalize mo2.types.length=k2 at *;generalize mo2.funcs.length=k3 at *;generalize XG mo2=tx at *;go_wp2_with fail;have HC:Hid (∀W,Calls Tryz.prog 11 #[.string tx] W fun e w'=>∃x1 x2 x3 y1 y2 y3 d,e=.returned (.tuple #[.agg #[.slice x1 x2 x3,.slice y1 y2 y3],d,.bool true])/\qC (fun b=>W.heap.size<=b/\b<w'.heap.size) w' (jb tx []) (.agg #[.slice x1 x2 x3,.slice y1 y2 y3])/\ze (fun b=>W.heap.size<=b/\b<w'.heap.size) (xp w') 2 (kF tx []) d/\Below W.heap.size W w'):=fun W=>zcx _ W
 refine (HC.out _).mono ?_;rintro e w5 ⟨x1,x2,x3,y1,y2,y3,d,rfl,hfc,hd,hb5⟩;obtain⟨dq1,dq2,dq3,rfl⟩:=hd.slice;have HB5:=zd (HB4.out.trans (hb5.mono HB4.out.size));clear hb5 hd HB4 HC;have HU:Hid (∀W,Calls Tryz.prog 12 #[.string sx] W fun e w'=>∃u,e=.returned u/\ze (fun b=>W.heap.size<=b/\b<w'.heap.size) (zG w') 1 (Z9 (zA sx)) u/\Below W.heap.size W w'):=fun W=>zck sx W
 go_wp2_with fail;obtain⟨W5,HW5,hs5,hb55,o0,o1⟩:∃W5,Hid (w5.alloc (.cells #[.slice x1 x2 x3,.slice y1 y2 y3] 26)=W5)/\W5.heap.size=w5.heap.size+1/\Below w5.heap.size w5 W5/\W5.cell? ⟨w5.heap.size,0,none⟩=some (.slice x1 x2 x3)/\W5.cell? ⟨w5.heap.size,1,none⟩=some (.slice y1 y2 y3):=
  ⟨_,rfl,by simp,(Below.refl _ _).alloc (Nat.le_refl _) _,by simp[go_sem],by simp[go_sem]⟩
 rw[HW5.out];refine (HU.out _).mono ?_;rintro e w6 ⟨uv,rfl,hus,hb6⟩;have HB6:=zd (HB5.out.trans ((hb55.trans (hb6.mono hb55.size)).mono HB5.out.size));have HFc:Hid (∀W,Below w6.heap.size w6 W->qC (fun b=>b<W.heap.size) W (jb tx []) (.agg #[.slice x1 x2 x3,.slice y1 y2 y3])):=fun W hW=>by
  have h1:=(hb55.trans (hb6.mono hb55.size)).trans (hW.mono (Nat.le_trans hb55.size hb6.size));exact hfc.keep ⟨fun b hb=>h1.block b hb.2,fun b hb=>Nat.lt_of_lt_of_le hb.2 h1.size⟩
 have HO:Hid (∀W,Below w6.heap.size w6 W->W.cell? ⟨w5.heap.size,0,none⟩=some (.slice x1 x2 x3)/\W.cell? ⟨w5.heap.size,1,none⟩=some (.slice y1 y2 y3)):=fun W hW=>by
  have h1:=hb6.trans (hW.mono hb6.size);exact⟨(h1.cell (p:=⟨w5.heap.size,0,none⟩) (by show w5.heap.size<_; omega)).trans o0,(h1.cell (p:=⟨w5.heap.size,1,none⟩) (by show w5.heap.size<_; omega)).trans o1⟩
 have hfB:w5.heap.size<w6.heap.size:=by have:=hb6.size; omega
 obtain⟨hok0,hsmall0,-⟩:=zfJ (s:=tx) (l:=[]) (fun i hi=>by cases hi);have HOk:=zd hok0;have HSmall:=zd hsmall0;have HRise:Hid (xN (fun s:ByteArray=>s) (Z9 (zA sx))):=ZD _ _;have HId:Hid (∀u∈Z9 (zA sx),zf u=true):=fun u hu=>by
  obtain⟨j,h,_,rfl⟩:=(Yd _ _ (Nat.le_refl _) u).1 hu;exact Vp (jS sx).1 _ (List.getElem_mem h)
 have h24:(Z9 (zA sx)).length<=24:=by
  have h1:=KT (zA sx).uses (zA sx).uses.length;have h2:=Qx sx;unfold Z9;omega
 generalize jb tx []=own at *;generalize Z9 (zA sx)=us at *;have HUs:=zd hus;obtain⟨ua,uc,rfl⟩:=hus.is;have hus2:=hus.len;clear hfc hus hb6 hb55 o0 o1 HU HB5 hok0 hsmall0 HW5 hs5 hus2;go_wp2_with fail
 go_loopw [12,49] (fun iv kv wr=>∃(j:Nat) (ps:List (ByteArray×Bool)),j<=us.length/\kv=.int .i64 j/\ps.map (·.1)=us.take j/\(∀p∈ps,(p.1.toList==[100])=true->p.2=false)/\wr.ownsRow w6.heap.size 49 4 iv ps.length (yP ps (.slice x1 x2 x3) (.slice y1 y2 y3))/\Below w6.heap.size w6 wr) (fun _ k _=>us.length - (intOf k).toNat)
 case atStart=>exact⟨0,[],Nat.zero_le _,rfl,rfl,(fun p hp=>by cases hp),World.ownsRow_nil _ _ _ _,Below.refl _ _⟩
 case round=>
  obtain⟨j,ps,hj,rfl,hps,hd,hown,hbl⟩:=hrel;have HPs:=zd hps;have HD:=zd hd;have HBl:=zd hbl;have hszr:=hbl.size;have hpl:ps.length=j:=by have h:=congrArg List.length hps; rw[List.length_map,List.length_take] at h; omega
  have HPl:=zd hpl;clear hps hd
  by_cases hlt:j<us.length
  ·have hlt':(j:Int)<(us.length:Int):=by omega
   obtain⟨_,ub,uo,rfl,hub,q0,_⟩:=HUs.out.at hlt;rw[Nat.mul_one] at q0;have d0:=(hbl.cell (p:=⟨ub,uo+j,none⟩) hub.2).trans q0;have hubr:ub<wr.heap.size:=Nat.lt_of_lt_of_le hub.2 hszr;obtain⟨e0,e1⟩:=HO.out _ hbl;have hu8:us[j].size<=8:=xi (HId.out _ (List.getElem_mem hlt));have HTake:Hid (∀b:Bool,((us[j].toList==[100])=true->b=false)->(ps++[(us[j],b)]).map (·.1)=us.take (j+1)/\∀p∈ps++[(us[j],b)],(p.1.toList==[100])=true->p.2=false):=fun b hb=>by
    refine⟨by rw[List.map_append,HPs.out,List.take_add_one,List.getElem?_eq_getElem hlt]; rfl,fun p hp=>?_⟩
    rcases List.mem_append.1 hp with h|h
    ·exact HD.out p h
    ·simp at h; subst h; exact hb
   obtain⟨la,lcap,rfl⟩:=j6 hown;have hpn:ps.length<=1000:=by omega
   have HSnoc:Hid (∀b,yP (ps++[(us[j],b)]) (.slice x1 x2 x3) (.slice y1 y2 y3)=yP ps (.slice x1 x2 x3) (.slice y1 y2 y3)++ZQ us[j] (!(us[j].toList==[100])) b (.slice x1 x2 x3) (.slice y1 y2 y3)):=fun b=>zec ps (us[j],b) _ _
   have hcl:=zao (.slice x1 x2 x3) (.slice y1 y2 y3) ps;have HCl:=zd hcl;have HOwn:=zd hown;have HE0:=zd e0;have HE1:=zd e1;clear q0 hown e0 e1 hpl hcl hbl;generalize hux:us[j]=u at *;clear hux;go_wp2_with fail;refine Code.wp_mono ?_ (zeV _ _ _ _ _ _ _ _ _ _ _ _ _ _ _ _ _ _ _ _ _ _ _ _ _ _ _ _ _ _ _ _ _ _ _ _ _ _ _ _ _ _ _ _ _ _ _ _ _ _ _ _ _ _ _ _ _ _ _ _ _ _ _ _ _ _ _ _ _ _ _ _ _ _ _ _ _ _ _ _ _ _ _ _ _ _ _ _ _ _ _ _ _ _ _ _ _ _ _ _ _ _ _ _ _ _ _ _ _ _ _ _ _ _ _ _ _ _ _ _ u hu8 w5.heap.size w6.heap.size x1 y1 x2 x3 y2 y3 la ps.length lcap hpn _ wr hszr hfB HE0.out HE1.out HOwn.out);intro e a w' h
   cases e with
   |normal=>
    obtain⟨v53,v54,v55,v56,v57,v58,v59,v60,v61,v62,v63,v64,v65,v66,v67,b,g,cap,rfl,hown',hbel'⟩:=h;have HB':Hid (Below w6.heap.size w6 w'):=HBl.out.trans hbel';have HOw:=zd hown';clear hbel'
    cases hq:(u.toList==[100]) with
    |false=>
     obtain⟨hp1,hp2⟩:=HTake.out b (fun h=>by rw[hq] at h; cases h);have HP1:=zd hp1;have HP2:=zd hp2;have HX:Hid (w'.ownsRow w6.heap.size 49 4 (.slice (some ⟨g,0,none⟩) (ps.length+1) cap) (ps++[(u,b)]).length (yP (ps++[(u,b)]) (.slice x1 x2 x3) (.slice y1 y2 y3))):=by
      show w'.ownsRow _ _ _ _ _ _;rw[HSnoc.out b,List.length_append];exact hown'
     clear hown' hp1 hp2 HOw HTake HSnoc;go_wp2_with fail;exact⟨⟨j+1,ps++[(u,b)],by omega,by go_num,HP1.out,HP2.out,HX.out,HB'.out⟩,by simp[intOf]; omega⟩
    |true=>
     obtain⟨hp1,hp2⟩:=HTake.out false (fun _=>rfl);have HP1:=zd hp1;have HP2:=zd hp2;have hcl:=HCl.out;have hlen:(yP ps (.slice x1 x2 x3) (.slice y1 y2 y3)++ZQ u (!(u.toList==[100])) b (.slice x1 x2 x3) (.slice y1 y2 y3)).length=ps.length * 4+4:=by rw[List.length_append,hcl]; rfl
     obtain⟨z2,hz2⟩:∃z,w'.cell? ⟨g,ps.length * 4+2,none⟩=some z:=⟨_,kW hown' (ps.length * 4+2) _ (List.getElem?_eq_getElem (by omega))⟩
     obtain⟨z3,hz3⟩:∃z,w'.cell? ⟨g,ps.length * 4+2+1,none⟩=some z:=⟨_,kW hown' (ps.length * 4+2+1) _ (List.getElem?_eq_getElem (by omega))⟩
     have f2:=XR hown' (ps.length * 4+2);have f3:=XR hown' (ps.length * 4+2+1);have HX:Hid (((w'.setCell ⟨g,ps.length * 4+2,none⟩ (.slice none 0 0)).setCell ⟨g,ps.length * 4+2+1,none⟩ (.slice none 0 0)).ownsRow w6.heap.size 49 4 (.slice (some ⟨g,0,none⟩) (ps.length+1) cap) (ps++[(u,false)]).length (yP (ps++[(u,false)]) (.slice x1 x2 x3) (.slice y1 y2 y3))):=by
      show World.ownsRow _ _ _ _ _ _ _;have h1:=zc5 (zc5 hown' (ps.length * 4+2) (.slice none 0 0)) (ps.length * 4+2+1) (.slice none 0 0);rw[zg3 _ _ _ _ _ _ _ hcl] at h1;rw[HSnoc.out false,List.length_append];exact h1
     have HBx:Hid (Below w6.heap.size w6 ((w'.setCell ⟨g,ps.length * 4+2,none⟩ (.slice none 0 0)).setCell ⟨g,ps.length * 4+2+1,none⟩ (.slice none 0 0))):=by
      have hg:=(zk hown' g rfl).1;exact (HB'.out.setCell hg _).setCell hg _
     clear hown' hp1 hp2 HOw HTake HSnoc hcl hlen;go_wp2_with fail;exact⟨⟨j+1,ps++[(u,false)],by omega,by go_num,HP1.out,HP2.out,HX.out,HBx.out⟩,by simp[intOf]; omega⟩
   |_=>exact h.elim
  ·have hnl:¬(j:Int)<(us.length:Int):=by omega
   have hje:j=us.length:=by omega
   obtain⟨wo,hwo⟩:∃wo,wo=wr:=⟨_,rfl⟩
   subst hwo;have hpu:ps.map (·.1)=us:=by have:=HPs.out; rwa [hje,List.take_length] at this
   have himf:=zhS HRise.out HId.out h24 HOk.out hpu HD.out;have h8:∀p∈ps,p.1.size<=maxLen:=fun p hp=>by
    have:=xi (HId.out p.1 (by rw[<- hpu]; exact List.mem_map_of_mem hp));unfold maxLen; omega
   have hsl:=zhR hown (by unfold maxLen; omega) h8 (HFc.out _ hbl);have hck:=Vf (fun b=>b<wo.heap.size) sx (ps.map (imP own)) u12 wo (fun _ h=>h) hsl (zap HSmall.out);rw[himf] at hck;have HCk:=zd hck;obtain⟨hok,hsm,hgd⟩:=zfJ (s:=sx) (l:=ps.map (imP own)) (zap HSmall.out);have HOk2:=zd hok;have HSm2:=zd hsm;have HGd:=zd hgd;obtain⟨ia,icap,hie⟩:=hsl.is;subst hie;have HBo:=zd (HB6.out.trans (hbl.mono HB6.out.size));clear hok hsm hgd hck hsl h8 himf hpu hown hbl HPs HD HBl HPl HUs HFc HO HRise HId HOk HSmall HB6;generalize (ps.map (imP own)).length=il at *;generalize hcf:jb sx (ps.map (imP own))=cf at *;generalize hcb:kF sx (ps.map (imP own))=cb at *;clear hcf hcb;go_wp2_with fail;refine HCk.out.mono ?_;rintro e w7 ⟨xx,xy,dv,rfl,hfx,hdx,hb7⟩;obtain⟨z1,z2,z3,z4,z5,z6,hux,hvx⟩:=zbS hfx;subst hux hvx;obtain⟨da,dc,rfl⟩:=hdx.is;have HB7:=zd (HBo.out.trans (hb7.mono HBo.out.size));have HFx:=zd hfx;have HDx:=zd hdx;clear hfx hdx hb7 HCk;obtain⟨w8,HW8,hs8,hb8,k0,k1⟩:∃W8,Hid (w7.alloc (.cells #[.slice z1 z2 z3,.slice z4 z5 z6] 26)=W8)/\W8.heap.size=w7.heap.size+1/\Below w7.heap.size w7 W8/\W8.cell? ⟨w7.heap.size,0,none⟩=some (.slice z1 z2 z3)/\W8.cell? ⟨w7.heap.size,1,none⟩=some (.slice z4 z5 z6):=
    ⟨_,rfl,by simp,(Below.refl _ _).alloc (Nat.le_refl _) _,by simp[go_sem],by simp[go_sem]⟩
   have HB8:=zd (HB7.out.trans (hb8.mono HB7.out.size));have HK8:Hid (∀W,Below w8.heap.size w8 W->W.cell? ⟨w7.heap.size,0,none⟩=some (.slice z1 z2 z3)/\W.cell? ⟨w7.heap.size,1,none⟩=some (.slice z4 z5 z6)/\qC (fun b=>b<W.heap.size) W cf (.agg #[.slice z1 z2 z3,.slice z4 z5 z6])):=fun W hW=>by
    have h1:=hb8.trans (hW.mono hb8.size);exact⟨(hW.cell (p:=⟨w7.heap.size,0,none⟩) (by show w7.heap.size<_; omega)).trans k0,(hW.cell (p:=⟨w7.heap.size,1,none⟩) (by show w7.heap.size<_; omega)).trans k1,HFx.out.keep ⟨fun b hb=>h1.block b hb.2,fun b hb=>Nat.lt_of_lt_of_le hb.2 h1.size⟩⟩
   have HDx8:Hid (∀W,Below w8.heap.size w8 W->ze (fun b=>b<W.heap.size) (xp W) 2 cb (.slice da cb.length dc)):=fun W hW=>by
    have h1:=hb8.trans (hW.mono hb8.size);exact vw (S':=fun b=>b<W.heap.size) ⟨fun b hb=>h1.block b hb.2,fun b hb=>Nat.lt_of_lt_of_le hb.2 h1.size⟩ HDx.out
   have hdl:=HDx.out.len;unfold maxLen at hdl;clear hb8 k0 k1 HFx HDx hs8 HB7 HBo;go_wp2_with (first|(rw[HW8.out]; clear HW8)|fail)
   go_loopw [87] (fun kv wr=>∃k:Nat,k<=cb.length/\kv=.int .i64 k/\Below w8.heap.size w8 wr) (fun k _=>cb.length - (intOf k).toNat)
   case atStart=>exact⟨0,Nat.zero_le _,rfl,Below.refl _ _⟩
   case round=>
    obtain⟨k,hk,rfl,hbk⟩:=hrel;have HBk:=zd hbk;have hszk:=hbk.size
    by_cases hkt:k<cb.length
    ·have hkt':(k:Int)<(cb.length:Int):=by omega
     obtain⟨_,db,doff,rfl,hdb,⟨c0,_⟩,c1⟩:=(HDx8.out _ hbk).at hkt;obtain⟨⟨hc1,hc8⟩,hce⟩:=HGd.out _ (List.getElem_mem hkt);have HBa:Hid (∀o,Below w8.heap.size w8 (wr.alloc o)):=fun o=>HBk.out.alloc hszk _
     clear hbk HDx8 HGd HK8 HOk2 HSm2;generalize cb[k].wh=x at *;generalize cb[k].code=c at *
     cases hE:x.toList.isEmpty with
     |true=>
      have hx0:x.size=0:=by
       rw[Lib.toList_data] at hE;have h1:x.data.toList=[]:=by simpa using hE
       have h2:=congrArg List.length h1;rw[Array.length_toList] at h2;exact h2
      obtain rfl:c=1:=hce hx0;clear hce hx0 hc1 hc8;go_wp2_with fail;exact⟨⟨k+1,by omega,by go_num,HBa.out _⟩,by simp[intOf]; omega⟩
     |false=>
      have hcl:¬c<1:=by omega
      have hcg:¬8<c:=by omega
      clear hce;go_wp2_with fail;exact⟨⟨k+1,by omega,by go_num,HBa.out _⟩,by simp[intOf]; omega⟩
    ·have hkn:¬(k:Int)<(cb.length:Int):=by omega
     obtain⟨wq,hwq⟩:∃wq,wq=wr:=⟨_,rfl⟩
     subst hwq;obtain⟨y0,y1',hfq⟩:=HK8.out _ hbk;have HCh:Hid (∀W,Below w8.heap.size w8 W->Calls Tryz.prog 14 #[.agg #[.slice z1 z2 z3,.slice z4 z5 z6]] W fun e w'=>e=.returned (.int .i64 0)/\Below W.heap.size W w'):=fun W hW=>by
      have h1:=v8 (fun b=>b<W.heap.size) cf _ W (fun _ h=>h) (HK8.out _ hW).2.2;rw[HOk2.out] at h1;exact h1
     have HCo:Hid (∀W,Below w8.heap.size w8 W->Calls Tryz.prog 16 #[.agg #[.slice z1 z2 z3,.slice z4 z5 z6]] W fun e w'=>∃a n cap a2 n2 cap2,e=.returned (.agg #[.slice a n cap,.slice a2 n2 cap2])/\Qs (fun b=>W.heap.size<=b/\b<w'.heap.size) w' cf (.slice a n cap) (.slice a2 n2 cap2)/\Below W.heap.size W w'):=fun W hW=>
      KU (fun b=>b<W.heap.size) cf _ W (fun _ h=>h) (HK8.out _ hW).2.2 HSm2.out
     have HSa:Hid (∀W u,Below w8.heap.size w8 W->qC (fun b=>b<W.heap.size) W cf u->Calls Tryz.prog 15 #[.agg #[.slice z1 z2 z3,.slice z4 z5 z6],u] W fun e w'=>e=.returned (.bool true)/\Below W.heap.size W w'):=fun W u hW hu=>by
      have h1:=zeX (fun b=>b<W.heap.size) cf cf _ u W (fun _ h=>h) (HK8.out _ hW).2.2 hu;rw[zeI] at h1;exact h1
     have HK0:Hid (FgS w8 w7.heap.size (.slice z1 z2 z3) (.slice z4 z5 z6) wq.drew):=⟨HBk.out.drew,y0,y1'⟩
     clear hfq hbk HDx8 HGd HK8 HOk2 HSm2;go_wp2_with fail
     go_region_held3 (fun W=>Below w8.heap.size w8 W/\W.cell? ⟨w7.heap.size,0,none⟩=some (.slice z1 z2 z3)/\W.cell? ⟨w7.heap.size,1,none⟩=some (.slice z4 z5 z6)) (first|exact HK0.out|exact FgS.later (by assumption) (by assumption))
      (first
       |(go_at_call 14; refine (HCh.out _ (FgS.below (by assumption))).mono ?_; rintro e wa ⟨rfl,hba⟩)
       |(go_at_call 16; refine (HCo.out _ (FgS.below (by assumption))).mono ?_; rintro e wb ⟨p1,p2,p3,p4,p5,p6,rfl,hcs,hbb⟩)
       |(go_at_call 15; refine (HSa.out _ _ (FgS.below (by assumption)) ⟨_,_,rfl,Qs.keep ⟨fun _ _=>rfl,fun _ h=>h.2⟩ hcs⟩).mono ?_; rintro e wc ⟨rfl,hbc⟩))
     all_goals
      rename_i hHeld
      have HF:=zd (HB8.out.trans ((FgS.below hHeld).mono HB8.out.size));clear hHeld hba hbb hbc hcs HCh HCo HSa HK0;go_wp2_with fail;go_ret;exact⟨rfl,HF.out⟩
end Go.Proofs.YtedpiamfpbdhoaaGreatDoor.facesGood
namespace Go.Proofs.YtedpiamfpbdhoaaGreatDoor.facesGood
open Go.ChangeShapes Go.WideShapes Go.ChangeAt Go.RowKit
open Go.ChangeMaps (open_string shut_string)
theorem own:ownKnob Tryz.prog.godebug=none:=by kernel_rfl
theorem laidOut:laidOutB Tryz.prog=true:=laidBut
abbrev jK:List (String×DataW Unit):=Rows.facesGoodRow.laid
theorem laid_met (os:Os) (args:Array Value):laidMetH Tryz.prog jK ((World.laidAll Tryz.prog os jK).forCall (fun _ _=>0) ⟨#[],args,[]⟩).memory:=by
 rw[MakeChecks.laidMetH_plain _ _ _ (by kernel_rfl)];exact laidMet_laidAll _ (by kernel_rfl) (by kernel_rfl)
theorem zg4:Tryz.prog.globalNamed "internal/strconv.uint64pow10" = some 4:=by kernel_rfl
theorem zik:(Tryz.prog.globals[4]?).map (·.type)=some 328:=by kernel_rfl
theorem zg5:Tryz.prog.cellsOf 212=1:=by kernel_rfl
theorem zg6:Tryz.prog.cellsOf 328=20:=by kernel_rfl
theorem zfK:Tryz.prog.globalNamed "scullery/scullerykeep.names" = some 0:=by kernel_rfl
theorem zif:(Tryz.prog.globals[0]?).map (·.type)=some 150:=by kernel_rfl
theorem zed:Tryz.prog.cellsOf 150=6:=by kernel_rfl
theorem zfL:Tryz.prog.cellsOf 9=1:=by kernel_rfl
theorem zcz {W:World} (h:laidMet Tryz.prog jK W):Zr W.heap.size W:=by
 have h':=laidMet.tail (laidMet.tail h);have ht:=Lib.tabIs_of_head (k:=.u64) (zs:=Lib.pow10Tab) zg4 zik Tryz.underlying328 Tryz.underlying212 zg5 zg6 h';refine⟨_,zg4,?_,ht⟩;have:=ht.cell zg4 0 (by rw[Lib.pow10Tab_length]; omega);exact World.block_lt_of_cell? W _ this
def ym (j:Nat):ByteArray:=([⟨#[97]⟩,⟨#[98]⟩,⟨#[98,111,120]⟩,⟨#[100]⟩,⟨#[101,50]⟩,⟨#[102,117,110]⟩]:List ByteArray).getD j ⟨#[97]⟩
theorem zfM (j:Nat) (hj:j<6):zf (ym j)=true/\(ym j).size<=8:=by
 have:j=0\/j=1\/j=2\/j=3\/j=4\/j=5:=by omega
 rcases this with rfl|rfl|rfl|rfl|rfl|rfl <;> exact⟨by decide +kernel,by decide +kernel⟩
theorem zaJ {W:World} (h:laidMet Tryz.prog jK W):qz W:=by
 have h':=laidMet.tail (laidMet.tail (laidMet.tail (laidMet.tail (laidMet.tail (laidMet.tail h)))));obtain⟨ps,⟨g',t',cs,fuel,p,q,hg',ht',hvar,hd,_,_⟩,_⟩:=h';obtain rfl:=Option.some.inj (zfK.symm.trans hg');obtain rfl:=Option.some.inj (zif.symm.trans ht');obtain⟨xs,m,_,hx,hcl,hxl,hel⟩:=DataW.trod_array Tryz.underlying150 hd;rw[zed] at hcl;have hxs:xs.map (·.1)=[.lit (.string [97]),.lit (.string [98]),.lit (.string [98,111,120]),.lit (.string [100]),.lit (.string [101,50]),.lit (.string [102,117,110])]:=by
  have:=congrArg Prod.fst hx;injection this with this
  exact this.symm
 have each:∀j,j<6->W.cell? ⟨0,j,none⟩=some (.string (ym j)):=fun j hj=>by
  have he:=hel j hj;rw[zfL,Nat.mul_one,List.getElem?_eq_getElem (by omega)] at he;obtain⟨s,hcs,hlit,_⟩:=DataW.trod_string Tryz.underlying9 he;have h1:cs[j]? = some (.string s):=by
   have:=congrArg (·[0]?) hcs;simpa [List.getElem?_take,List.getElem?_drop] using this
  have h2:(xs.map (·.1))[j]? = some (.lit (.string s.data.toList)):=by
   rw[List.getElem?_map,List.getElem?_eq_getElem (by omega)];have:=congrArg Prod.fst hlit;simpa using this
  rw[hxs] at h2;have hs:s=ym j:=by
   have hj':j=0\/j=1\/j=2\/j=3\/j=4\/j=5:=by omega
   apply Go.WideShapes.bytes_inj
   rcases hj' with rfl|rfl|rfl|rfl|rfl|rfl <;> (simp at h2; rw[<- h2]; rfl)
  rw[World.var?_cell zfK hvar j,<- hs];simpa using h1
 refine⟨World.block_lt_of_cell? W _ (each 0 (by omega)),fun j hj=>⟨ym j,each j hj,zfM j hj⟩⟩
theorem Kq:Tryz.prog.cellsOf 91=4:=by kernel_rfl
theorem zhT:Tryz.prog.cellsOf 3=1:=by kernel_rfl
theorem zc6 {H:Type} {enc:TypeId×Value->H} {W:World} {base:Nat} {spare:Nat->Bool} {held:Bool} (fuel:Nat) (cs:List Value) (x:DataW H×List MemPlace) (h:DataW.trod enc Tryz.prog W base spare held fuel 91 cs=some x) :
  ∃r:Rw,cs=[.int .i64 r.kind,.int .i64 r.a,.int .i64 r.b,.int .i64 r.c]/\wfI r.kind/\wfI r.a/\wfI r.b/\wfI r.c:=by
 obtain⟨ys,n,_,_,hlen,hyl0,hf⟩:=DataW.trod_struct Tryz.underlying91 h;rw[Kq] at hlen
 match cs,hlen with
 |[v0,v1,v2,v3],_=>
  have g0:DataW.trod enc Tryz.prog W base spare held n 3 (([v0,v1,v2,v3].drop 0).take (Tryz.prog.cellsOf 3))=ys[0]?:=hf 0 _ rfl;have g1:DataW.trod enc Tryz.prog W base spare held n 3 (([v0,v1,v2,v3].drop 1).take (Tryz.prog.cellsOf 3))=ys[1]?:=hf 1 _ rfl;have g2:DataW.trod enc Tryz.prog W base spare held n 3 (([v0,v1,v2,v3].drop 2).take (Tryz.prog.cellsOf 3))=ys[2]?:=hf 2 _ rfl;have g3:DataW.trod enc Tryz.prog W base spare held n 3 (([v0,v1,v2,v3].drop 3).take (Tryz.prog.cellsOf 3))=ys[3]?:=hf 3 _ rfl;rw[zhT] at g0 g1 g2 g3;have hyl:ys.length=4:=hyl0;obtain⟨y0,e0⟩:∃y,ys[0]? = some y:=⟨_,List.getElem?_eq_getElem (by omega)⟩
  obtain⟨y1,e1⟩:∃y,ys[1]? = some y:=⟨_,List.getElem?_eq_getElem (by omega)⟩
  obtain⟨y2,e2⟩:∃y,ys[2]? = some y:=⟨_,List.getElem?_eq_getElem (by omega)⟩
  obtain⟨y3,e3⟩:∃y,ys[3]? = some y:=⟨_,List.getElem?_eq_getElem (by omega)⟩
  obtain⟨a,ha,_,fa⟩:=DataW.trod_int Tryz.underlying3 (g0.trans e0);obtain⟨b,hb,_,fb⟩:=DataW.trod_int Tryz.underlying3 (g1.trans e1);obtain⟨c,hc,_,fc⟩:=DataW.trod_int Tryz.underlying3 (g2.trans e2);obtain⟨d,hd,_,fd⟩:=DataW.trod_int Tryz.underlying3 (g3.trans e3);simp at ha hb hc hd;subst ha hb hc hd;exact⟨⟨a,b,c,d⟩,rfl,fa,fb,fc,fd⟩
theorem lifted (os:Os) (started:os.Started) (H:Type) (enc:TypeId×Value->H) :
  ReturnsInHanded {} Tryz.checked os 4 .any (fun w args=>(Rows.facesGoodSpec.pre enc Tryz.prog Tryz.f4 [] false w args/\laidMetH Tryz.prog jK w)/\sizedMet enc Tryz.prog Tryz.f4 (OpenSpec.ofChange Rows.facesGoodSpec) false w args)
   (Rows.facesGoodSpec.post enc Tryz.prog Tryz.f4 false true false false):=by
 refine returnsInHanded_of_change_and (C:=Tryz.checked) (X:=fun w _=>laidMetH Tryz.prog jK w) (fun _ _ _ hh h=>h.of_heap hh) own started (by kernel_rfl) Tryz.func4
  (ChangeSpec.witness_shaped (enc:=enc) (C:=Tryz.checked) (os:=os) (X:=fun w _=>laidMetH Tryz.prog jK w) false (World.laidAll Tryz.prog os jK) #[.slice none 0 0,.slice none 0 0] 8 rfl (World.shaped_of_ZipB (by kernel_rfl) (by kernel_rfl)) (by kernel_rfl) (by kernel_rfl) (by kernel_rfl) (laid_met os _)) ?_
 intro W base args ds gs before hval0 hW _ hsz hL _;have hval:∀(j:Nat) t v,Tryz.f4.params[j]? = some t->args[j]? = some v->Value.okWide Tryz.prog W .any base t v:=hval0;have hW':=hW;obtain⟨p,q,hA0,hV,rfl,hfz,hnd⟩:=hW;have hA:DataW.TrodAll enc Tryz.prog W 0 (fun _=>true) true Tryz.f4.params.toList args.toList ds p:=hA0;rw[Tryz.params4] at hA hval;obtain⟨v0,vs0,d0,ds0,p0,q0,hargs0,rfl,rfl,h0,r0⟩:=trodAll_cons hA;obtain⟨v1,vs1,d1,ds1,p1,q1,hargs1,rfl,rfl,h1,r1⟩:=trodAll_cons r0;obtain⟨rfl,rfl,rfl⟩:=trodAll_nil r1;obtain rfl:args=#[v0,v1]:=by cases args; simp_all
 obtain⟨rfl,rfl⟩:=trodVars_none hV;obtain⟨a0,len0,cap0,rfl⟩:=okWide_slice Tryz.underlying34 (hval 0 34 v0 rfl rfl);have k0:=h0;have lt0:∀x∈p0,x.block<W.heap.size:=by obtain⟨m,hm⟩:=k0; exact DataW.trod_lt m _ _ _ hm
 obtain⟨l0,w0⟩:∃l,ze (fun b=>b<W.heap.size) (qK W) 4 l (.slice a0 len0 cap0):=by
  obtain⟨fuel,hf⟩:=h0;obtain⟨v,l,hv,hl⟩:=zcR (P:=qK W) Tryz.underlying34 Kq (by omega) hf (fun m' cs' x' b o _ hx' _ hl'=>by
   obtain⟨r,rfl,f0,f1,f2,f3⟩:=zc6 m' cs' x' hx';exact⟨r,⟨hl'.2 0 (by simp),hl'.2 1 (by simp),hl'.2 2 (by simp),hl'.2 3 (by simp)⟩,f0,f1,f2,f3⟩)
  have e:Value.slice a0 len0 cap0=v:=by simpa [Value.cells] using hv
  exact⟨l,by rw[e]; exact hl⟩
 obtain⟨a1,len1,cap1,rfl⟩:=okWide_slice Tryz.underlying34 (hval 1 34 v1 rfl rfl);have k1:=h1;have lt1:∀x∈p1,x.block<W.heap.size:=by obtain⟨m,hm⟩:=k1; exact DataW.trod_lt m _ _ _ hm
 obtain⟨l1,w1⟩:∃l,ze (fun b=>b<W.heap.size) (qK W) 4 l (.slice a1 len1 cap1):=by
  obtain⟨fuel,hf⟩:=h1;obtain⟨v,l,hv,hl⟩:=zcR (P:=qK W) Tryz.underlying34 Kq (by omega) hf (fun m' cs' x' b o _ hx' _ hl'=>by
   obtain⟨r,rfl,f0,f1,f2,f3⟩:=zc6 m' cs' x' hx';exact⟨r,⟨hl'.2 0 (by simp),hl'.2 1 (by simp),hl'.2 2 (by simp),hl'.2 3 (by simp)⟩,f0,f1,f2,f3⟩)
  have e:Value.slice a1 len1 cap1=v:=by simpa [Value.cells] using hv
  exact⟨l,by rw[e]; exact hl⟩
 have hP:laidMet Tryz.prog jK W:=by
  rw[MakeChecks.laidMetH_plain _ _ _ (by kernel_rfl)] at hL;exact hL
 clear hA0 hval0 hsz hL;refine (walk _ _ l0 l1 W w0 w1 (zaJ hP) (zcz hP)).mono fun e W' ⟨he,bel⟩=>?_
 subst he;exact⟨_,rfl,_,_,_,[],_,[],hW',trodAll_mk1 (shut_bool Tryz.underlying4 _),(trodAll_cons_mk (Below.trod laidOut (by kernel_rfl) (of_decide_eq_true (by kernel_rfl)) k0 bel lt0) (trodAll_cons_mk (Below.trod laidOut (by kernel_rfl) (of_decide_eq_true (by kernel_rfl)) k1 bel lt1) trodAll_mk0)),rfl,bel.frame _,fun h=>by cases h⟩
theorem over:Rows.FacesGoodSaid:=
 OpenClaim.holds_of_wide 4 Tryz.f4 rfl rfl rfl rfl rfl rfl rfl ⟨rfl,rfl,rfl,rfl,rfl⟩ rfl rfl rfl rfl rfl named Tryz.func4 closed inst wrap
  (fun os started H enc _=>lifted os started H enc)
theorem proved:Rows.FacesGoodCardSaid:=
 Claim7.holds_tied_plain_at .later [] [.data,.data,.data,.data,.sentinel,.sentinel,.data,.pinned] true (true,"49e8a0c8b53c6ea70ced2ad59d07a0deae070f3f842ac8893ac6b759739e2ada") true
  over (fun _ h=>by cases h) byText (fun _ h=>by cases h) facesGood_row_tie rfl ⟨rfl,rfl⟩ mainOk rfl
  (fun f fn hf hfn=>by
   obtain rfl:f=4:=Option.some.inj (named.symm.trans hf) |>.symm
   obtain rfl:fn=Tryz.f4:=(Option.some.inj (Tryz.func4.symm.trans hfn)).symm;exact⟨looksOk,fun j t ht=>by
    rw[Tryz.params4] at ht;have hm:t∈[34,34]:=by simpa using Array.mem_of_getElem? ht
    exact (show Tryz.prog.wantsStandIn t=false by simpa using List.all_eq_true.1 standIns t hm)⟩)
  goesOk
#print axioms proved
end Go.Proofs.YtedpiamfpbdhoaaGreatDoor.facesGood
