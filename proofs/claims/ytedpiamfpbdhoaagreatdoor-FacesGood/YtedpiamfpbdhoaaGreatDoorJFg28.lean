import Derived.Test.YtedpiamfpbdhoaaGreatDoorJFg27
set_option maxHeartbeats 40000000
set_option maxRecDepth 100000
namespace Go.Proofs.YtedpiamfpbdhoaaGreatDoor
open Go.RowKit
theorem zgY {W:World} {d1 d2 d3:List Dg} {v1 v2 v3:Value} (h1:ze (fun b=>b<W.heap.size) (xp W) 2 d1 v1) (h2:ze (fun b=>b<W.heap.size) (xp W) 2 d2 v2) (h3:ze (fun b=>b<W.heap.size) (xp W) 2 d3 v3) :
  ze (fun b=>b<(W.alloc (.cells #[v1,v2,v3] 27)).heap.size) (zh5 (fun b=>b<(W.alloc (.cells #[v1,v2,v3] 27)).heap.size) (W.alloc (.cells #[v1,v2,v3] 27))) 1 [d1,d2,d3] (.slice (some ⟨W.heap.size,0,none⟩) 3 3):=by
 have hk:Keeps (fun b=>b<W.heap.size) (fun b=>b<(W.alloc (.cells #[v1,v2,v3] 27)).heap.size) W (W.alloc (.cells #[v1,v2,v3] 27)):=
  ⟨fun b hb=>heap_alloc_old _ _ hb,fun b hb=>by simp; omega⟩
 refine⟨_,3,rfl,⟨by unfold maxLen; simp,by simp⟩,Or.inr ⟨W.heap.size,0,rfl,by simp,?_⟩⟩;exact⟨⟨v1,by simp[go_sem],vw hk h1⟩,⟨v2,by simp[go_sem],vw hk h2⟩,⟨v3,by simp[go_sem],vw hk h3⟩,trivial⟩
def WrS (B C:Nat) (u t f o p:Value) (wr W:World):Prop:=Below wr.heap.size wr W/\W.cell? ⟨B,0,none⟩=some u/\W.cell? ⟨B,1,none⟩=some t/\W.cell? ⟨B,2,none⟩=some f/\W.cell? ⟨C,0,none⟩=some o/\W.cell? ⟨C,1,none⟩=some p
theorem WrS.below {B C:Nat} {u t f o p:Value} {wr W:World} (h:WrS B C u t f o p wr W):Below wr.heap.size wr W:=h.1
theorem WrS.later {B C:Nat} {u t f o p:Value} {wr W W':World} (h:WrS B C u t f o p wr W) (hb:Below W.heap.size W W'):WrS B C u t f o p wr W':=by
 obtain⟨h0,h1,h2,h3,h4,h5⟩:=h;have hk:∀(a:Addr) v,W.cell? a=some v->W'.cell? a=some v:=fun a v hv=>(hb.cell (World.block_lt_of_cell? _ _ hv)).trans hv
 exact⟨h0.trans (hb.mono h0.size),hk _ _ h1,hk _ _ h2,hk _ _ h3,hk _ _ h4,hk _ _ h5⟩
theorem WrS.box {B C:Nat} {u t f o p:Value} {wr W:World} {x:Obj} (h:WrS B C u t f o p wr W):WrS B C u t f o p wr (W.alloc x):=h.later ((Below.refl _ _).alloc (Nat.le_refl _) _)
theorem zc3 {w a b:World} (h:Below w.drew.heap.size w.drew a) (h2:Below a.heap.size a b):Below w.heap.size w b:=
 (show Below w.heap.size w a from ⟨h.os,h.tape,h.output,h.size,h.block⟩).trans (h2.mono h.size)
theorem Ve {m:Mo} {l:List Im} (hz:∀i∈l,zH i.face) (h0:zI m=0) (hzm:Zi m):zH (ZH m l):=
 zfC hz (fun f hf=>xi (Zb h0 f hf).1) (fun f hf=>⟨xi (kb h0 f hf).1,(kb h0 f hf).2.1⟩) (by have:=Qm h0 hzm; omega)
theorem zai (m:Mo) (l:List Im) (own:Fc):jI [z7 m.uses l m.uses.length,qp m l m.types.length,ql m l own m.funcs.length]=jR m l own:=by
 simp[jI,jR]
theorem zfD (S:Nat->Prop) (m:Mo) (l:List Im) (own:Fc) (vm vl vo:Value) (w:World) (hS:∀b,S b->b<w.heap.size) (hm:qT S w m vm) (hl:ze S (yd S w) 4 l vl) (ho:qC S w own vo) (hz:∀i∈l,zH i.face) (hzo:zH own) (h0:zI m=0) (hzm:Zi m) :
  Calls Tryz.prog 20 #[vm,vl,vo] w fun e w'=>∃u,e=.returned u/\ze (fun b=>w.heap.size<=b/\b<w'.heap.size) (xp w') 2 (jR m l own) u/\Below w.heap.size w w':=by
 have hcnt:=Qm h0 hzm;have hn8:∀s∈m.uses,s.size<=8:=fun s hs=>xi (Vp h0 s hs)
 have hf8:∀f∈m.funcs,f.name.size<=8:=fun f hf=>xi (kb h0 f hf).1
 have ht8:∀f∈m.types,f.name.size<=8:=fun f hf=>xi (Zb h0 f hf).1
 have HT:Hid (∀W,Below w.heap.size w W->Calls Tryz.prog 55 #[vm,vl] W fun e w'=>∃u v,e=.returned (.tuple #[u,v])/\ze (fun b=>W.heap.size<=b/\b<w'.heap.size) (jp w') 2 (xT m l m.types.length) u/\ze (fun b=>W.heap.size<=b/\b<w'.heap.size) (xp w') 2 (qp m l m.types.length) v/\Below W.heap.size W w'):=fun W hW=>
  K7 S m l vm vl W (fun b hb=>Nat.lt_of_lt_of_le (hS b hb) hW.size) (hm.keep (Keeps.below hW hS)) (qd (Keeps.below hW hS) hl) hz (Zb h0) (by omega)
 have HU:Hid (∀W,Below w.heap.size w W->Calls Tryz.prog 62 #[vm,vl] W fun e w'=>∃u,e=.returned u/\ze (fun b=>W.heap.size<=b/\b<w'.heap.size) (xp w') 2 (z7 m.uses l m.uses.length) u/\Below W.heap.size W w'):=fun W hW=>
  zgy S m l vm vl W (fun b hb=>Nat.lt_of_lt_of_le (hS b hb) hW.size) (hm.keep (Keeps.below hW hS)) (qd (Keeps.below hW hS) hl) (by omega) hn8
 have HF:Hid (∀W,Below w.heap.size w W->Calls Tryz.prog 63 #[vm,vl,vo] W fun e w'=>∃u,e=.returned u/\ze (fun b=>W.heap.size<=b/\b<w'.heap.size) (xp w') 2 (ql m l own m.funcs.length) u/\Below W.heap.size W w'):=fun W hW=>
  zaH S m l own vm vl vo W (fun b hb=>Nat.lt_of_lt_of_le (hS b hb) hW.size) (hm.keep (Keeps.below hW hS)) (qd (Keeps.below hW hS) hl) (ho.keep (Keeps.below hW hS)) hz hzo h0 hzm
 have HCat:Hid (∀(W:World) v1 v2 v3,ze (fun b=>b<W.heap.size) (xp W) 2 (z7 m.uses l m.uses.length) v1->ze (fun b=>b<W.heap.size) (xp W) 2 (qp m l m.types.length) v2->ze (fun b=>b<W.heap.size) (xp W) 2 (ql m l own m.funcs.length) v3->Calls Tryz.prog 61 #[.slice (some ⟨W.heap.size,0,none⟩) 3 3] (W.alloc (.cells #[v1,v2,v3] 27)) fun e w'=>∃u,e=.returned u/\ze (fun b=>(W.alloc (.cells #[v1,v2,v3] 27)).heap.size<=b/\b<w'.heap.size) (xp w') 2 (jR m l own) u/\Below (W.alloc (.cells #[v1,v2,v3] 27)).heap.size (W.alloc (.cells #[v1,v2,v3] 27)) w'):=fun W v1 v2 v3 h1 h2 h3=>by
  have:=zdR (fun b=>b<(W.alloc (.cells #[v1,v2,v3] 27)).heap.size) _ _ _ (fun _ h=>h) (zgY h1 h2 h3) (by
   have:=Z4 m.uses l m.uses.length;have:=Xi m l m.types.length;have:=Xz m l own m.funcs.length;simp only[ji]; omega) (fun t ht=>by
   rw[zai] at ht;unfold jR at ht
   rcases List.mem_append.1 ht with h|h
   ·exact zdI hn8 t h
   ·rcases List.mem_append.1 h with h|h
    ·exact Q5 ht8 _ t h
    ·exact ZY hf8 _ t h)
  rw[zai] at this;exact this
 obtain⟨vu,vty,vf,rfl,hu,hts,hf⟩:=hm;obtain⟨u1,u2,u3,rfl⟩:=hu.slice;obtain⟨t1,t2,t3,rfl⟩:=hts.slice;obtain⟨f1,f2,f3,rfl⟩:=hf.slice;obtain⟨la,ln,lc,rfl⟩:=hl.slice;obtain⟨vt',vf',rfl,ho1,ho2⟩:=ho;obtain⟨o1,o2,o3,rfl⟩:=ho1.slice;obtain⟨o4,o5,o6,rfl⟩:=ho2.slice;obtain⟨w0,hwe,hs0,hA,q0,q1,q2,q3,q4⟩:∃w0,(w.alloc (.cells #[.slice u1 u2 u3,.slice t1 t2 t3,.slice f1 f2 f3] 41)).alloc (.cells #[.slice o1 o2 o3,.slice o4 o5 o6] 26)=w0/\w0.heap.size=w.heap.size+2/\Below w.heap.size w w0/\
   w0.cell? ⟨w.heap.size,0,none⟩=some (.slice u1 u2 u3)/\w0.cell? ⟨w.heap.size,1,none⟩=some (.slice t1 t2 t3)/\w0.cell? ⟨w.heap.size,2,none⟩=some (.slice f1 f2 f3)/\w0.cell? ⟨w.heap.size+1,0,none⟩=some (.slice o1 o2 o3)/\w0.cell? ⟨w.heap.size+1,1,none⟩=some (.slice o4 o5 o6):=
  ⟨_,rfl,by simp,((Below.refl _ _).alloc (Nat.le_refl _) _).alloc (by simp) _,by simp[go_sem],by simp[go_sem],by simp[go_sem],by simp[go_sem],by simp[go_sem]⟩
 have HWe:=zd hwe;have HA:=zd hA;have HBox:Hid (∀W,Below w0.heap.size w0 W->(W.cell? ⟨w.heap.size,0,none⟩=some (.slice u1 u2 u3)/\W.cell? ⟨w.heap.size,1,none⟩=some (.slice t1 t2 t3)/\W.cell? ⟨w.heap.size,2,none⟩=some (.slice f1 f2 f3)/\W.cell? ⟨w.heap.size+1,0,none⟩=some (.slice o1 o2 o3)/\W.cell? ⟨w.heap.size+1,1,none⟩=some (.slice o4 o5 o6))/\Below w.heap.size w W):=fun W h=>by
  have l0:w.heap.size<w0.heap.size:=by omega
  have l1:w.heap.size+1<w0.heap.size:=by omega
  exact⟨⟨(h.cell (p:=⟨w.heap.size,0,none⟩) l0).trans q0,(h.cell (p:=⟨w.heap.size,1,none⟩) l0).trans q1,(h.cell (p:=⟨w.heap.size,2,none⟩) l0).trans q2,(h.cell (p:=⟨w.heap.size+1,0,none⟩) l1).trans q3,(h.cell (p:=⟨w.heap.size+1,1,none⟩) l1).trans q4⟩,hA.trans (h.mono hA.size)⟩
 clear hu hts hf hl hwe hA ho1 ho2 hz hzo h0 hzm hcnt hn8 hf8 ht8 hS;generalize z7 m.uses l m.uses.length=d1 at *;generalize qp m l m.types.length=d2 at *;generalize ql m l own m.funcs.length=d3 at *;generalize jR m l own=dr at *;go_enter Tryz.func20,Tryz.ntmps20;go_wp2_with fail;rw[HWe.out];clear HWe;refine (HT.out _ HA.out).mono ?_;rintro e w1 ⟨tu,tv,rfl,hkn,hdg,hb1⟩;obtain⟨ka,kn,kc,rfl⟩:=hkn.slice;obtain⟨da,dn,dc,rfl⟩:=hdg.slice;obtain⟨⟨c0,c1,c2,c3,c4⟩,hbw1⟩:=HBox.out w1 hb1;have hs1:=hbw1.size;have hw1:w.heap.size+2<=w1.heap.size:=by have:=hb1.size; omega
 have HB1:=zd hbw1;have HD2:Hid (∀W,Below w1.heap.size w1 W->ze (fun b=>b<W.heap.size) (xp W) 2 d2 (.slice da dn dc)):=fun W hW=>vw (S':=fun b=>b<W.heap.size) ⟨fun b hb=>hW.block b hb.2,fun b hb=>Nat.lt_of_lt_of_le hb.2 hW.size⟩ hdg
 have HK0:Hid (WrS w.heap.size (w.heap.size+1) (.slice u1 u2 u3) (.slice t1 t2 t3) (.slice f1 f2 f3) (.slice o1 o2 o3) (.slice o4 o5 o6) w1 w1.drew):=⟨(Below.refl _ _).drew,c0,c1,c2,c3,c4⟩
 clear hkn hdg hb1 hbw1 HT q0 q1 q2 q3 q4 HBox HA hs0;go_wp2_with fail;clear c0 c1 c2 c3 c4
 go_region_held3 (fun W=>Below w1.heap.size w1 W/\W.cell? ⟨w.heap.size,0,none⟩=some (.slice u1 u2 u3)/\W.cell? ⟨w.heap.size,1,none⟩=some (.slice t1 t2 t3)/\W.cell? ⟨w.heap.size,2,none⟩=some (.slice f1 f2 f3)/\W.cell? ⟨w.heap.size+1,0,none⟩=some (.slice o1 o2 o3)/\W.cell? ⟨w.heap.size+1,1,none⟩=some (.slice o4 o5 o6)) (first|exact HK0.out|exact WrS.later (by assumption) (by assumption)|exact WrS.box (by assumption))
  (first
   |(go_at_call 62; refine (HU.out _ (HB1.out.trans ((WrS.below (by assumption)).mono hs1))).mono ?_; rintro e w3 ⟨u,rfl,hsl3,hb3⟩; obtain⟨xa,xn,xc,rfl⟩:=hsl3.slice; have HD1:Hid (∀W,Below w3.heap.size w3 W->ze (fun b=>b<W.heap.size) (xp W) 2 d1 (.slice xa xn xc)):=fun W hW=>vw (S':=fun b=>b<W.heap.size) ⟨fun b hb=>hW.block b hb.2,fun b hb=>Nat.lt_of_lt_of_le hb.2 hW.size⟩ hsl3; clear hsl3)
   |(go_at_call 63; refine (HF.out _ (HB1.out.trans ((WrS.below (by assumption)).mono hs1))).mono ?_; rintro e w5 ⟨u,rfl,hsl5,hb5⟩; obtain⟨ya,yn,yc,rfl⟩:=hsl5.slice; have HD3:Hid (∀W,Below w5.heap.size w5 W->ze (fun b=>b<W.heap.size) (xp W) 2 d3 (.slice ya yn yc)):=fun W hW=>vw (S':=fun b=>b<W.heap.size) ⟨fun b hb=>hW.block b hb.2,fun b hb=>Nat.lt_of_lt_of_le hb.2 hW.size⟩ hsl5; clear hsl5)
   |(go_at_call 61; refine (HCat.out _ _ _ _ (HD1.out _ (by first|exact Below.refl _ _|assumption)) (HD2.out _ (by first|exact zc3 hb3 hb5|exact zc3 hb5 hb3)) (HD3.out _ (by first|exact Below.refl _ _|assumption))).mono ?_; rintro e w7 ⟨u,rfl,hsl7,hb7⟩; have HS7:Hid (ze (fun b=>w.heap.size<=b/\b<w7.heap.size) (xp w7) 2 dr u):=hsl7.imp (fun b hb=>⟨by have h1:=(WrS.below (by assumption)).size; omega,hb.2⟩) (fun _ _ _ _ _ h=>h); obtain⟨za,zn,zc,rfl⟩:=hsl7.slice; clear hsl7))
 all_goals
  rename_i hHeld
  have HB7:=zd (HB1.out.trans (hHeld.1.mono hs1));clear hHeld;go_wp2_with fail;go_ret;exact⟨_,rfl,HS7.out,HB7.out⟩
def Ym:Fc:=⟨[],[]⟩
def jb (s:ByteArray) (l:List Im):Fc:=if xE l=0 then (if xX s=0 then ZH (zA s) l else Ym) else Ym
def kF (s:ByteArray) (l:List Im):List Dg:=if xE l=0 then (if xX s=0 then jR (zA s) l (ZH (zA s) l) else [⟨zr,1⟩]) else []
theorem zc4 {S:Nat->Prop} {w:World}:qC S w Ym (.agg #[.slice none 0 0,.slice none 0 0]):=⟨_,_,rfl,yo,yo⟩
theorem zbS {S:Nat->Prop} {w:World} {f:Fc} {u v:Value} (h:qC S w f (.agg #[u,v])):∃x1 x2 x3 y1 y2 y3,u=.slice x1 x2 x3/\v=.slice y1 y2 y3:=by
 obtain⟨vt,vf,hv,hk,hg⟩:=h;obtain⟨a1,a2,a3,ha⟩:=hk.slice;obtain⟨b1,b2,b3,hb⟩:=hg.slice;injection hv with hv
 have hv':[u,v]=[vt,vf]:=congrArg Array.toList hv;injection hv' with h1 h2
 injection h2 with h2 _
 exact⟨a1,a2,a3,b1,b2,b3,h1.trans ha,h2.trans hb⟩
def CkS (w:World) (B C:Nat) (u t f o p:Value) (W:World):Prop:=Below w.heap.size w W/\W.cell? ⟨B,0,none⟩=some u/\W.cell? ⟨B,1,none⟩=some t/\W.cell? ⟨B,2,none⟩=some f/\W.cell? ⟨C,0,none⟩=some o/\W.cell? ⟨C,1,none⟩=some p
theorem CkS.later {w:World} {B C:Nat} {u t f o p:Value} {W W':World} (h:CkS w B C u t f o p W) (hb:Below W.heap.size W W'):CkS w B C u t f o p W':=by
 obtain⟨h0,h1,h2,h3,h4,h5⟩:=h;have hk:∀(a:Addr) v,W.cell? a=some v->W'.cell? a=some v:=fun a v hv=>(hb.cell (World.block_lt_of_cell? _ _ hv)).trans hv
 exact⟨h0.trans (hb.mono h0.size),hk _ _ h1,hk _ _ h2,hk _ _ h3,hk _ _ h4,hk _ _ h5⟩
theorem CkS.put {w:World} {B C:Nat} {u t f o p a b:Value} {W:World} (h:CkS w B C u t f o p W) (hB:w.heap.size<B) (hC:w.heap.size<C):CkS w B C u t f o p ((W.setCell ⟨w.heap.size,0,none⟩ a).setCell ⟨w.heap.size,1,none⟩ b):=by
 obtain⟨h0,h1,h2,h3,h4,h5⟩:=h;have hk:∀(x:Addr) v,w.heap.size<x.block->W.cell? x=some v->((W.setCell ⟨w.heap.size,0,none⟩ a).setCell ⟨w.heap.size,1,none⟩ b).cell? x=some v:=fun x v hx hv=>by
  rw[World.cell?_setCell_far _ _ _ _ (by show w.heap.size≠x.block; omega),World.cell?_setCell_far _ _ _ _ (by show w.heap.size≠x.block; omega)]; exact hv
 exact⟨(h0.setCell (by show w.heap.size<=w.heap.size; omega) _).setCell (by show w.heap.size<=w.heap.size; omega) _,hk _ _ hB h1,hk _ _ hB h2,hk _ _ hB h3,hk _ _ hC h4,hk _ _ hC h5⟩
theorem Vf (S:Nat->Prop) (s:ByteArray) (l:List Im) (v:Value) (w:World) (hS:∀b,S b->b<w.heap.size) (hl:ze S (yd S w) 4 l v) (hz:∀i∈l,zH i.face) :
  Calls Tryz.prog 5 #[.string s,v] w fun e w'=>∃x y d,e=.returned (.tuple #[.agg #[x,y],d,.int .i64 (xE l)])/\qC (fun b=>w.heap.size<=b/\b<w'.heap.size) w' (jb s l) (.agg #[x,y])/\ze (fun b=>w.heap.size<=b/\b<w'.heap.size) (xp w') 2 (kF s l) d/\Below w.heap.size w w':=by
 have HIm:Hid (∀W,Below w.heap.size w W->Calls Tryz.prog 17 #[v] W fun e w'=>e=.returned (.int .i64 (xE l))/\Below W.heap.size W w'):=fun W hW=>
  Jc S l v W (fun b hb=>Nat.lt_of_lt_of_le (hS b hb) hW.size) (qd (Keeps.below hW hS) hl)
 have HRd:Hid (∀W,Calls Tryz.prog 18 #[.string s] W fun e w'=>Below W.heap.size W w'/\∃v,e=.returned (.tuple #[v,.int .i64 (xX s)])/\qT (zm W.heap.size w') w' (zA s) v):=fun W=>zgh s W
 obtain⟨h0,hzm⟩:=jS s;have hcnt:=Qx s;have HFc:Hid (∀W vm,Below w.heap.size w W->qT (fun b=>b<W.heap.size) W (zA s) vm->Calls Tryz.prog 19 #[vm,v] W fun e w'=>∃u v d,e=.returned (.tuple #[.agg #[u,v],d])/\qC (fun b=>W.heap.size<=b/\b<w'.heap.size) w' (ZH (zA s) l) (.agg #[u,v])/\ze (fun b=>W.heap.size<=b/\b<w'.heap.size) (xp w') 2 (qJ (zA s) l (zA s).funcs.length) d/\Below W.heap.size W w'):=fun W vm hW hm=>
  zgM (fun b=>b<W.heap.size) (zA s) l vm v W (fun _ h=>h) hm (qd (S':=fun b=>b<W.heap.size) ⟨fun b hb=>hW.block b (hS b hb),fun b hb=>Nat.lt_of_lt_of_le (hS b hb) hW.size⟩ hl) hz (Zb h0) (by omega) (by omega) (kb h0)
 have HWr:Hid (∀W vm vo,Below w.heap.size w W->qT (fun b=>b<W.heap.size) W (zA s) vm->qC (fun b=>b<W.heap.size) W (ZH (zA s) l) vo->Calls Tryz.prog 20 #[vm,v,vo] W fun e w'=>∃u,e=.returned u/\ze (fun b=>W.heap.size<=b/\b<w'.heap.size) (xp w') 2 (jR (zA s) l (ZH (zA s) l)) u/\Below W.heap.size W w'):=fun W vm vo hW hm ho=>
  zfD (fun b=>b<W.heap.size) (zA s) l (ZH (zA s) l) vm v vo W (fun _ h=>h) hm (qd (S':=fun b=>b<W.heap.size) ⟨fun b hb=>hW.block b (hS b hb),fun b hb=>Nat.lt_of_lt_of_le (hS b hb) hW.size⟩ hl) ho hz (Ve hz h0 hzm) h0 hzm
 have HcF:Hid (jb s l=if xE l=0 then (if xX s=0 then ZH (zA s) l else Ym) else Ym):=rfl;have HcB:Hid (kF s l=if xE l=0 then (if xX s=0 then jR (zA s) l (ZH (zA s) l) else [⟨zr,1⟩]) else []):=rfl;obtain⟨la,ln,lc,rfl⟩:=hl.slice;obtain⟨W1,HW1,hs1,hb1,c0,c1,z0,z1⟩:∃W1,Hid (w.alloc (.cells #[.slice none 0 0,.slice none 0 0] 26)=W1)/\W1.heap.size=w.heap.size+1/\Below w.heap.size w W1/\W1.cell? ⟨w.heap.size,0,none⟩=some (.slice none 0 0)/\W1.cell? ⟨w.heap.size,1,none⟩=some (.slice none 0 0)/\W1.frozen? ⟨w.heap.size,0,none⟩=false/\W1.frozen? ⟨w.heap.size,1,none⟩=false:=
  ⟨_,rfl,by simp,(Below.refl _ _).alloc (Nat.le_refl _) _,by simp[go_sem],by simp[go_sem],by simp[go_sem],by simp[go_sem]⟩
 have HRes:Hid (∀W,Below W1.heap.size W1 W->Below w.heap.size w W/\(W.cell? ⟨w.heap.size,0,none⟩=some (.slice none 0 0)/\W.cell? ⟨w.heap.size,1,none⟩=some (.slice none 0 0)/\W.frozen? ⟨w.heap.size,0,none⟩=false/\W.frozen? ⟨w.heap.size,1,none⟩=false)):=fun W h=>by
  have l0:w.heap.size<W1.heap.size:=by omega
  exact⟨hb1.trans (h.mono hb1.size),(h.cell (p:=⟨w.heap.size,0,none⟩) l0).trans c0,(h.cell (p:=⟨w.heap.size,1,none⟩) l0).trans c1,(h.frozen (p:=⟨w.heap.size,0,none⟩) l0).trans z0,(h.frozen (p:=⟨w.heap.size,1,none⟩) l0).trans z1⟩
 have HSet:Hid (∀W u0 u1,Below w.heap.size w W->Below w.heap.size w ((W.setCell ⟨w.heap.size,0,none⟩ u0).setCell ⟨w.heap.size,1,none⟩ u1)):=fun W u0 u1 h=>
  (h.setCell (by show w.heap.size<=w.heap.size; omega) _).setCell (by show w.heap.size<=w.heap.size; omega) _
 have HB1:=zd hb1;have hw1:w.heap.size<W1.heap.size:=by omega
 clear hl hz hS h0 hzm hcnt hb1 c0 c1 z0 z1 hs1;generalize xE l=ei at *;generalize xX s=er at *;generalize jR (zA s) l (ZH (zA s) l)=wrs at *;generalize ZH (zA s) l=own at *;generalize qJ (zA s) l (zA s).funcs.length=fbs at *;generalize zA s=m at *;generalize jb s l=cf at *;generalize kF s l=cb at *;go_enter Tryz.func5,Tryz.ntmps5;go_wp2_with (first|(rw[HW1.out]; clear HW1)|fail);refine (HIm.out _ HB1.out).mono ?_;rintro e w2 ⟨rfl,hb2⟩;have HB2:=zd hb2;obtain⟨hbw2,g0,g1,g2,g3⟩:=HRes.out w2 hb2;have HBw2:=zd hbw2;clear hb2 hbw2 HIm
 by_cases hei:ei=0
 ·subst hei
  rw[if_pos rfl] at HcF HcB;have hs2:=HB2.out.size;clear g0 g1 g2 g3;go_wp2_with fail;refine (HRd.out _).mono ?_;rintro e w3 ⟨hb3,vm,rfl,hm3⟩;have hb23:=HB2.out.trans (hb3.mono hs2);have HB3:=zd hb23;have hs3:=hb23.size;have hm3':=hm3;obtain⟨vu,vty,vf,rfl,hu,hts,hf⟩:=hm3';obtain⟨u1,u2,u3,rfl⟩:=hu.slice;obtain⟨t1,t2,t3,rfl⟩:=hts.slice;obtain⟨f1,f2,f3,rfl⟩:=hf.slice;obtain⟨W4,HW4,hs4,hb4,m0,m1,m2⟩:∃W4,Hid (w3.alloc (.cells #[.slice u1 u2 u3,.slice t1 t2 t3,.slice f1 f2 f3] 41)=W4)/\W4.heap.size=w3.heap.size+1/\Below w3.heap.size w3 W4/\W4.cell? ⟨w3.heap.size,0,none⟩=some (.slice u1 u2 u3)/\W4.cell? ⟨w3.heap.size,1,none⟩=some (.slice t1 t2 t3)/\W4.cell? ⟨w3.heap.size,2,none⟩=some (.slice f1 f2 f3):=
   ⟨_,rfl,by simp,(Below.refl _ _).alloc (Nat.le_refl _) _,by simp[go_sem],by simp[go_sem],by simp[go_sem]⟩
  have hb14:=hb23.trans (hb4.mono hs3);have HB4:=zd hb14;have HM4:Hid (∀W,Below W4.heap.size W4 W->qT (fun b=>b<W.heap.size) W m (.agg #[.slice u1 u2 u3,.slice t1 t2 t3,.slice f1 f2 f3])):=fun W hW=>
   hm3.keep ⟨fun b hb=>(hW.block b (by have:=hb.2; omega)).trans (hb4.block b hb.2),fun b hb=>by have:=hb.2; have:=hW.size; omega⟩
  obtain⟨hbw4,g0,g1,g2,g3⟩:=HRes.out W4 hb14;have HBw4:=zd hbw4;clear hb3 hb23 hm3 hu hts hf hb4 hb14 hbw4 HRd HBw2 HB3
  by_cases her:er=0
  ·subst her
   rw[if_pos rfl] at HcF HcB;have HFc4:=zd (HFc.out W4 _ HBw4.out (HM4.out _ (Below.refl _ _)));clear HFc g0 g1 g2 g3;go_wp2_with (first|(rw[HW4.out]; clear HW4)|fail);refine HFc4.out.mono ?_;rintro e w5 ⟨xu,xv,xd,rfl,hfx,_,hb5⟩;obtain⟨x1,x2,x3,y1,y2,y3,hux,hvx⟩:=zbS hfx;subst hux hvx;obtain⟨W6,HW6,hs6,hb6,n0,n1⟩:∃W6,Hid (w5.alloc (.cells #[.slice x1 x2 x3,.slice y1 y2 y3] 26)=W6)/\W6.heap.size=w5.heap.size+1/\Below w5.heap.size w5 W6/\W6.cell? ⟨w5.heap.size,0,none⟩=some (.slice x1 x2 x3)/\W6.cell? ⟨w5.heap.size,1,none⟩=some (.slice y1 y2 y3):=
    ⟨_,rfl,by simp,(Below.refl _ _).alloc (Nat.le_refl _) _,by simp[go_sem],by simp[go_sem]⟩
   have hb46:=hb5.trans (hb6.mono hb5.size);have hs46:=hb46.size;have hb16:=HB4.out.trans (hb46.mono HB4.out.size);have hb06:=(HRes.out W6 hb16).1;have l3:w3.heap.size<W4.heap.size:=by omega
   have k0:=(hb46.cell (p:=⟨w3.heap.size,0,none⟩) l3).trans m0;have k1:=(hb46.cell (p:=⟨w3.heap.size,1,none⟩) l3).trans m1;have k2:=(hb46.cell (p:=⟨w3.heap.size,2,none⟩) l3).trans m2;have hW:Below W6.heap.size W6 W6.drew:=(Below.refl _ _).drew;have HWr6:Hid (Calls Tryz.prog 20 #[.agg #[.slice u1 u2 u3,.slice t1 t2 t3,.slice f1 f2 f3],.slice la ln lc,.agg #[.slice x1 x2 x3,.slice y1 y2 y3]] W6.drew fun e w'=>∃u,e=.returned u/\ze (fun b=>W6.heap.size<=b/\b<w'.heap.size) (xp w') 2 wrs u/\Below W6.heap.size W6.drew w'):=
    HWr.out W6.drew _ _ (hb06.trans (hW.mono hb06.size)) (HM4.out W6.drew (hb46.trans (hW.mono hs46))) (hfx.keep ⟨fun b hb=>(hW.block b (by have:=hb.2; omega)).trans (hb6.block b hb.2),fun b hb=>by have:=hb.2; have:=hW.size; omega⟩)
   have HFx:Hid (∀W,(∀b,W4.heap.size<=b->b<w5.heap.size->W.heap[b]? = W6.heap[b]?)->W6.heap.size<=W.heap.size->qC (fun b=>w.heap.size<=b/\b<W.heap.size) W own (.agg #[.slice x1 x2 x3,.slice y1 y2 y3])):=fun W hW hWs=>
    hfx.keep ⟨fun b hb=>(hW b hb.1 hb.2).trans (hb6.block b hb.2),fun b hb=>by have:=hb.1; have:=hb.2; omega⟩
   have HK0:Hid (CkS w w3.heap.size w5.heap.size (.slice u1 u2 u3) (.slice t1 t2 t3) (.slice f1 f2 f3) (.slice x1 x2 x3) (.slice y1 y2 y3) W6.drew):=⟨hb06.drew,k0,k1,k2,n0,n1⟩
   have HB16:=zd hb16;have l5:W4.heap.size<=w5.heap.size:=hb5.size;have hB3:w.heap.size<w3.heap.size:=by omega
   have hB6:w5.heap.size<W6.heap.size:=by omega
   have hB5:w.heap.size<w5.heap.size:=by omega
   have hs16:=hb16.size;clear hb5 hb6 hb46 hb16 hb06 hfx hs6 HWr HM4 HFc4 m0 m1 m2 hs46 hW hs4;go_wp2_with (first|(rw[HW6.out]; clear HW6)|fail);clear k0 k1 k2 n0 n1
   go_region_held3 (fun W=>Below w.heap.size w W/\W.cell? ⟨w3.heap.size,0,none⟩=some (.slice u1 u2 u3)/\W.cell? ⟨w3.heap.size,1,none⟩=some (.slice t1 t2 t3)/\W.cell? ⟨w3.heap.size,2,none⟩=some (.slice f1 f2 f3)/\W.cell? ⟨w5.heap.size,0,none⟩=some (.slice x1 x2 x3)/\W.cell? ⟨w5.heap.size,1,none⟩=some (.slice y1 y2 y3)) (first|exact HK0.out|exact CkS.later (by assumption) (by assumption)|exact CkS.put (by assumption) (by assumption) (by assumption))
    (first|(go_at_call 20; refine HWr6.out.mono ?_; rintro e w7 ⟨u,rfl,hsl7,hb7⟩; obtain⟨da,dn,dc,rfl⟩:=hsl7.slice; have hb67:Below W6.heap.size W6 w7:=⟨hb7.os,hb7.tape,hb7.output,hb7.size,hb7.block⟩; obtain⟨hbw7,g0,g1,g2,g3⟩:=HRes.out w7 (HB16.out.trans (hb67.mono hs16)); have HB7:=zd hbw7; clear hbw7))
   all_goals
    rename_i hHeld
    clear hHeld;have HF7:Hid (∀W',(∀b,w.heap.size<b->b<w7.heap.size->W'.heap[b]? = w7.heap[b]?)->w7.heap.size<=W'.heap.size->qC (fun b=>w.heap.size<=b/\b<W'.heap.size) W' own (.agg #[.slice x1 x2 x3,.slice y1 y2 y3])/\ze (fun b=>w.heap.size<=b/\b<W'.heap.size) (xp W') 2 wrs (.slice da dn dc)):=fun W' hk hsz=>by
     have h67:=hb67.size;refine⟨HFx.out W' (fun b h1 h2=>(hk b (by omega) (by omega)).trans (hb67.block b (by omega))) (by omega),vw (S':=fun b=>w.heap.size<=b/\b<W'.heap.size) ⟨fun b hb=>hk b ?_ hb.2,fun b hb=>⟨?_,Nat.lt_of_lt_of_le hb.2 hsz⟩⟩ hsl7⟩
     ·have:=hb.1; omega
     ·have:=hb.1; omega
    clear hb67 hsl7 HWr6 HFx HK0 hb7;go_wp2_with fail;refine bodyPost_ret (v:=.tuple #[.agg #[.slice x1 x2 x3,.slice y1 y2 y3],.slice da dn dc,.int .i64 0]) (by simp[results,Tryz.results5,go_sem,g0,g1]) rfl ?_;obtain⟨hF1,hF2⟩:=HF7.out ((w7.setCell ⟨w.heap.size,0,none⟩ (.slice x1 x2 x3)).setCell ⟨w.heap.size,1,none⟩ (.slice y1 y2 y3)) (fun b hb _=>by
     rw[Below.heap_setCell _ _ _ _ (by show b≠w.heap.size; omega),Below.heap_setCell _ _ _ _ (by show b≠w.heap.size; omega)]) (by simp)
    exact⟨_,_,_,rfl,by rw[HcF.out]; exact hF1,by rw[HcB.out]; exact hF2,HSet.out _ _ _ HB7.out⟩
  ·have he':(er != 0)=true:=by simp[her]
   rw[if_neg her] at HcF HcB;obtain⟨W5,HW5,hb5,n0,n1⟩:∃W5,Hid (W4.alloc (.cells #[.string ⟨#[]⟩,.int .i64 1] 51)=W5)/\Below W4.heap.size W4 W5/\W5.cell? ⟨W4.heap.size,0,none⟩=some (.string ⟨#[]⟩)/\W5.cell? ⟨W4.heap.size,1,none⟩=some (.int .i64 1):=
    ⟨_,rfl,(Below.refl _ _).alloc (Nat.le_refl _) _,by simp[go_sem],by simp[go_sem]⟩
   have hlt:W4.heap.size<W5.heap.size:=World.block_lt_of_cell? _ _ n0;have hb15:=HB4.out.trans (hb5.mono HB4.out.size);clear g0 g1 g2 g3;obtain⟨hbw5,g0,g1,g2,g3⟩:=HRes.out W5 hb15;have HBw5:=zd hbw5;have h4:w.heap.size<W4.heap.size:=by have:=HB4.out.size; omega
   have HF5:Hid (∀W':World,(∀b,w.heap.size<b->W'.heap[b]? = W5.heap[b]?)->W5.heap.size<=W'.heap.size->ze (fun b=>w.heap.size<=b/\b<W'.heap.size) (xp W') 2 [⟨zr,1⟩] (.slice (some ⟨W4.heap.size,0,none⟩) 1 1)):=fun W' hk hsz=>by
    have k0:W'.cell? ⟨W4.heap.size,0,none⟩=some (.string ⟨#[]⟩):=(World.cell?_of_block (hk _ h4)).trans n0;have k1:W'.cell? ⟨W4.heap.size,1,none⟩=some (.int .i64 1):=(World.cell?_of_block (hk _ h4)).trans n1;exact⟨_,1,rfl,⟨by unfold maxLen; simp,by simp⟩,Or.inr ⟨_,0,rfl,⟨by omega,by omega⟩,⟨⟨k0,Nat.zero_le _⟩,k1⟩,trivial⟩⟩
   clear her HFc HWr HM4 m0 m1 m2 hs4 n0 n1 hb5 hb15 hbw5;go_wp2_with (first|(rw[HW4.out]; clear HW4)|(rw[HW5.out]; clear HW5)|fail);refine bodyPost_ret (v:=.tuple #[.agg #[.slice none 0 0,.slice none 0 0],.slice (some ⟨W4.heap.size,0,none⟩) 1 1,.int .i64 0]) (by simp[results,Tryz.results5,go_sem,g0,g1]) rfl ?_;have hF2:=HF5.out ((W5.setCell ⟨w.heap.size,0,none⟩ (.slice none 0 0)).setCell ⟨w.heap.size,1,none⟩ (.slice none 0 0)) (fun b hb=>by
    rw[Below.heap_setCell _ _ _ _ (by show b≠w.heap.size; omega),Below.heap_setCell _ _ _ _ (by show b≠w.heap.size; omega)]) (by simp)
   exact⟨_,_,_,rfl,by rw[HcF.out]; exact zc4,by rw[HcB.out]; exact hF2,HSet.out _ _ _ HBw5.out⟩
 ·have he':(ei != 0)=true:=by simp[hei]
  rw[if_neg hei] at HcF HcB;clear hei HFc HWr HRd;go_wp2_with fail;refine bodyPost_ret (v:=.tuple #[.agg #[.slice none 0 0,.slice none 0 0],.slice none 0 0,.int .i64 ei]) (by simp[results,Tryz.results5,go_sem,g0,g1]) rfl ?_;exact⟨_,_,_,rfl,by rw[HcF.out]; exact zc4,by rw[HcB.out]; exact yo,HSet.out _ _ _ HBw2.out⟩
theorem zgZ:xE []=0:=by decide +kernel
theorem zcx (s:ByteArray) (w:World) :
  Calls Tryz.prog 11 #[.string s] w fun e w'=>∃x1 x2 x3 y1 y2 y3 d,e=.returned (.tuple #[.agg #[.slice x1 x2 x3,.slice y1 y2 y3],d,.bool true])/\qC (fun b=>w.heap.size<=b/\b<w'.heap.size) w' (jb s []) (.agg #[.slice x1 x2 x3,.slice y1 y2 y3])/\ze (fun b=>w.heap.size<=b/\b<w'.heap.size) (xp w') 2 (kF s []) d/\Below w.heap.size w w':=by
 obtain⟨W1,HW1,hs1,hb1,c0,c1,z0,z1⟩:∃W1,Hid (w.alloc (.cells #[.slice none 0 0,.slice none 0 0] 26)=W1)/\W1.heap.size=w.heap.size+1/\Below w.heap.size w W1/\W1.cell? ⟨w.heap.size,0,none⟩=some (.slice none 0 0)/\W1.cell? ⟨w.heap.size,1,none⟩=some (.slice none 0 0)/\W1.frozen? ⟨w.heap.size,0,none⟩=false/\W1.frozen? ⟨w.heap.size,1,none⟩=false:=
  ⟨_,rfl,by simp,(Below.refl _ _).alloc (Nat.le_refl _) _,by simp[go_sem],by simp[go_sem],by simp[go_sem],by simp[go_sem]⟩
 have hck:=Vf (fun b=>b<W1.heap.size) s [] (.slice none 0 0) W1 (fun _ h=>h) yo (fun i hi=>by cases hi);rw[zgZ] at hck;have HC:=zd hck;clear hck;generalize jb s []=cf at *;generalize kF s []=cb at *;go_enter Tryz.func11,Tryz.ntmps11;go_wp2_with (first|(rw[HW1.out]; clear HW1)|fail);refine HC.out.mono ?_;rintro e w2 ⟨xu,xv,d,rfl,hfx,hd,hb2⟩;obtain⟨x1,x2,x3,y1,y2,y3,hux,hvx⟩:=zbS hfx;subst hux hvx;obtain⟨d1,d2,d3,rfl⟩:=hd.slice;have l0:w.heap.size<W1.heap.size:=by omega
 have hs2:=hb2.size;obtain⟨W3,HW3,hs3,hb3,n0,n1⟩:∃W3,Hid (w2.alloc (.cells #[.slice x1 x2 x3,.slice y1 y2 y3] 26)=W3)/\W3.heap.size=w2.heap.size+1/\Below w2.heap.size w2 W3/\W3.cell? ⟨w2.heap.size,0,none⟩=some (.slice x1 x2 x3)/\W3.cell? ⟨w2.heap.size,1,none⟩=some (.slice y1 y2 y3):=
  ⟨_,rfl,by simp,(Below.refl _ _).alloc (Nat.le_refl _) _,by simp[go_sem],by simp[go_sem]⟩
 have hb13:=hb2.trans (hb3.mono hs2);have e0:=(hb13.cell (p:=⟨w.heap.size,0,none⟩) l0).trans c0;have e1:=(hb13.cell (p:=⟨w.heap.size,1,none⟩) l0).trans c1;have g0:=(hb13.frozen (p:=⟨w.heap.size,0,none⟩) l0).trans z0;have g1:=(hb13.frozen (p:=⟨w.heap.size,1,none⟩) l0).trans z1;have HFin:Hid (∀W',(∀b,w.heap.size<b->b<w2.heap.size->W'.heap[b]? = w2.heap[b]?)->w2.heap.size<=W'.heap.size->qC (fun b=>w.heap.size<=b/\b<W'.heap.size) W' cf (.agg #[.slice x1 x2 x3,.slice y1 y2 y3])/\ze (fun b=>w.heap.size<=b/\b<W'.heap.size) (xp W') 2 cb (.slice d1 d2 d3)):=fun W' hk hsz=>
  ⟨hfx.keep ⟨fun b hb=>hk b (by have:=hb.1; omega) hb.2,fun b hb=>⟨by have:=hb.1; omega,Nat.lt_of_lt_of_le hb.2 hsz⟩⟩,vw (S':=fun b=>w.heap.size<=b/\b<W'.heap.size) ⟨fun b hb=>hk b (by have:=hb.1; omega) hb.2,fun b hb=>⟨by have:=hb.1; omega,Nat.lt_of_lt_of_le hb.2 hsz⟩⟩ hd⟩
 have HB3:=zd (hb1.trans (hb13.mono hb1.size));have HSet:Hid (∀W u0 u1,Below w.heap.size w W->Below w.heap.size w ((W.setCell ⟨w.heap.size,0,none⟩ u0).setCell ⟨w.heap.size,1,none⟩ u1)):=fun W u0 u1 h=>
  (h.setCell (by show w.heap.size<=w.heap.size; omega) _).setCell (by show w.heap.size<=w.heap.size; omega) _
 have HK:Hid (∀b,w.heap.size<b->b<w2.heap.size->W3.heap[b]? = w2.heap[b]?):=fun b _ h2=>hb3.block b h2
 have HSz:Hid (w2.heap.size<=W3.heap.size):=hb3.size;clear hfx hd hb2 hb3 hb13 hb1 c0 c1 z0 z1 hs3 hs1 HC;go_wp2_with (first|(rw[HW3.out]; clear HW3)|fail);refine bodyPost_ret (v:=.tuple #[.agg #[.slice x1 x2 x3,.slice y1 y2 y3],.slice d1 d2 d3,.bool true]) (by simp[results,Tryz.results11,go_sem,e0,e1]) rfl ?_;obtain⟨hF1,hF2⟩:=HFin.out ((W3.setCell ⟨w.heap.size,0,none⟩ (.slice x1 x2 x3)).setCell ⟨w.heap.size,1,none⟩ (.slice y1 y2 y3)) (fun b hb h2=>by
  rw[Below.heap_setCell _ _ _ _ (by show b≠w.heap.size; omega),Below.heap_setCell _ _ _ _ (by show b≠w.heap.size; omega)]; exact HK.out b hb h2) (by simpa using HSz.out)
 exact⟨_,_,_,_,_,_,_,rfl,hF1,hF2,HSet.out _ _ _ HB3.out⟩
theorem Vg (s:ByteArray):(yH s).data.toList=91::(s.data.toList++[93]):=by simp[yH,ByteArray.data_append]
theorem zaj (s:ByteArray):(yH s).size=s.size+2:=by
 unfold yH;rw[ByteArray.size_append,ByteArray.size_append];show 1+s.size+1=_;omega
theorem VN {s:ByteArray} (h:0<s.size):zZ (yH s)=true:=by
 have e:s.data.toList.length=s.size:=by rw[Array.length_toList]; rfl
 unfold zZ kAt;rw[Vg,zaj];have h1:(91::(s.data.toList++[93])).getD (s.size+2 - 1) 0=93:=by
  rw[show s.size+2 - 1=s.data.toList.length+1 by omega];simp
 rw[h1];simp;omega
theorem zd8 {s:ByteArray} (h:0<s.size):q6 (yH s)=s:=by
 have h1:=JO (VN h);rw[Vg] at h1;refine Go.WideShapes.bytes_inj ?_;have h2:s.data.toList++[93]=(q6 (yH s)).data.toList++[93]:=by
  injection h1 with _ h1
 exact (List.append_cancel_right h2).symm
theorem zg0 {s:ByteArray} (h:zy s=0):0<s.size:=by
 rcases Nat.eq_zero_or_pos s.size with h0|h0
 ·have hb:=ZG h
  have hn:zZ s=false:=by
   cases hl:zZ s with
   |false=>rfl
   |true=>have:=qo hl; omega
  rw[X2 hn] at hb;have e:s.data.toList=[]:=List.length_eq_zero_iff.1 (by rw[Array.length_toList]; exact h0);unfold jM at hb;rw[Lib.toList_data,e] at hb
  cases hb
 ·exact h0
def XA (v:Bool) (s:ByteArray):Prop:=xD s=true/\(v=false->xM s=false)
theorem zfE {v:Bool} {s:ByteArray} (h:XA v s) (hl:qq s=0):XA v (yH s):=by
 obtain⟨h1,h2⟩:=QE hl;have hp:=zg0 h1;refine⟨?_,fun hv=>?_⟩
 ·have hb:=ZG h1
  rw[<- zd8 hp,<- V3 (VN hp)] at hb;have hk:zy (yH s)=0:=by
   unfold zy;rw[if_neg (by rw[zaj]; omega),if_pos hb]
  unfold xD;rw[hk]; rfl
 ·have:=h.2 hv
  unfold xM at this ⊢;rw[Vg];simpa using this
theorem zg1 (v:Bool):XA v Qv:=⟨by decide +kernel,fun _=>by decide +kernel⟩
theorem zfF (v:Bool):XA v ZB:=⟨by decide +kernel,fun _=>by decide +kernel⟩
theorem zak:XA true kx:=⟨by decide +kernel,fun h=>by cases h⟩
theorem XA.open {v:Bool} {s:ByteArray} (h:XA false s):XA v s:=⟨h.1,fun _=>h.2 rfl⟩
def vR (v:Bool) (r:Sol):Prop:=(r.2=0->XA v r.1)/\0<=r.2/\r.2<=8
theorem jT {v:Bool} {s:ByteArray} {c:Int} (h1:1<=c) (h2:c<=8):vR v (s,c):=⟨fun h=>by have h':c=0:=h; omega,by show 0<=c; omega,h2⟩
theorem XL {v:Bool} {s:ByteArray} (h:XA v s):vR v (s,0):=⟨fun _=>h,by show (0:Int)<=0; omega,by show (0:Int)<=8; omega⟩
theorem zd9 {v:Bool} {r:Sol} (h:vR v r):vR v (yg r):=by
 unfold yg
 by_cases h0:r.2=0
 ·rw[if_pos h0]
  by_cases hl:qq r.1=0
  ·rw[if_pos hl]; exact XL (zfE (h.1 h0) hl)
  ·rw[if_neg hl]; exact jT (by omega) (by omega)
 ·rw[if_neg h0]
  obtain⟨_,h1,h2⟩:=h;exact jT (by omega) h2
theorem XB {v:Bool} {ρ:ByteArray->ByteArray->Sol} (h:∀o n,vR v (ρ o n)):∀(d:Nat) (t:Ty),vR v (zo ρ d t)
 |0,_=>jT (by omega) (by omega)
 |d+1,.mk k o n xs=>by
  unfold zo
  by_cases h1:k=1
  ·rw[if_pos h1]; exact XL (zg1 v)
  ·rw[if_neg h1]
   by_cases h2:k=2
   ·rw[if_pos h2]; exact XL (zfF v)
   ·rw[if_neg h2]
    by_cases h3:k=3
    ·rw[if_pos h3]
     cases xs with
     |nil=>exact jT (by omega) (by omega)
     |cons t r=>exact zd9 (XB h d t)
    ·rw[if_neg h3]; exact h o n
def yZ (l:List Im):Prop:=∀i∈l,zW i.face=0
theorem zfG {b:Bool} (h:Kd b=0):b=true:=by
 cases b with
 |true=>rfl
 |false=>cases h
theorem zea {f:Fc} (h:zW f=0):∀k∈f.types,X5 k=true:=by
 unfold zW at h
 by_cases hc:24<wrap64 ((f.types.length:Int)+f.funcs.length)
 ·rw[if_pos hc] at h; cases h
 ·rw[if_neg hc] at h
  by_cases ho:zw xY Kn.name f.types ⟨#[]⟩=0
  ·exact fun k hk=>zfG (YU (fun _ h=>h) ho k hk).2
  ·rw[if_neg ho] at h; exact absurd h ho
theorem zal {v:Bool} {u:List ByteArray} {l:List Im} (hl:yZ l) (o n:ByteArray):vR v (Xt u l o n):=by
 unfold Xt jN Qn
 by_cases hc:(qY u l o&&vF (zK u l o) n==0)=true
 ·rw[if_pos hc,if_pos hc]
  rw[Bool.and_eq_true] at hc;have ht:vF (zK u l o) n=0:=eq_of_beq hc.2;unfold vF at ht;have hlt:jf (zK u l o) n<(zK u l o).types.length:=by
   by_cases h:jf (zK u l o) n<(zK u l o).types.length
   ·exact h
   ·rw[if_neg h] at ht; cases ht
  have hf:zW (zK u l o)=0:=by
   unfold zK
   cases hi:l[vJ l o]? with
   |none=>
    show zW ⟨[],[]⟩=0
    decide +kernel
   |some i=>
    show zW (if (i.there&&qu u o)=true then i.face else ⟨[],[]⟩)=0
    by_cases hh:(i.there&&qu u o)=true
    ·rw[if_pos hh]; exact hl i (List.mem_of_getElem? hi)
    ·rw[if_neg hh]; decide +kernel
  have hk:=zea hf _ (List.getElem_mem hlt);unfold X5 at hk;simp only[Bool.and_eq_true,Bool.not_eq_true'] at hk;unfold ja;rw[List.getElem?_eq_getElem hlt];exact XL ⟨hk.2.1,fun _=>hk.2.2⟩
 ·rw[if_neg hc,if_neg hc]; exact jT (by omega) (by omega)
theorem vR.open {v:Bool} {r:Sol} (h:vR false r):vR v r:=⟨fun h0=>(h.1 h0).open,h.2⟩
theorem Xm {m:Mo} {l:List Im} (hl:yZ l):∀(u:Nat) (v:ByteArray) (under:List ByteArray) (o n:ByteArray),vR (!v.toList.isEmpty) (qD m l u v under o n)
 |0,v,under,o,n=>by
  unfold qD
  by_cases ho:o.toList.isEmpty=true
  ·rw[if_pos ho]
   by_cases hv:(!v.toList.isEmpty&&sEq n v)=true
   ·rw[if_pos hv]
    rw[Bool.and_eq_true] at hv;rw[hv.1]; exact XL zak
   ·rw[if_neg hv]
    split
    ·exact jT (by omega) (by omega)
    ·exact jT (by omega) (by omega)
  ·rw[if_neg ho]; exact zal hl o n
 |u+1,v,under,o,n=>by
  unfold qD
  by_cases ho:o.toList.isEmpty=true
  ·rw[if_pos ho]
   by_cases hv:(!v.toList.isEmpty&&sEq n v)=true
   ·rw[if_pos hv]
    rw[Bool.and_eq_true] at hv;rw[hv.1]; exact XL zak
   ·rw[if_neg hv]
    cases m.types[zq m n]? with
    |none=>exact jT (by omega) (by omega)
    |some f=>
     simp only
     by_cases hh:qu under n=true
     ·rw[if_pos hh]; exact jT (by omega) (by omega)
     ·rw[if_neg hh]
      have hn:(!zr.toList.isEmpty)=false:=by decide +kernel
      exact (XB (fun o' n'=>by have:=Xm (m:=m) hl u zr (under++[n]) o' n'; rw[hn] at this; exact this) 10 f.is).open
  ·rw[if_neg ho]; exact zal hl o n
theorem JW {m:Mo} {l:List Im} (hl:yZ l) (k:Nat):vR false (qw m l k):=by
 unfold qw
 split
 ·exact jT (by omega) (by omega)
 ·have hn:(!zr.toList.isEmpty)=false:=by decide +kernel
  have:=Xm (m:=m) hl m.types.length zr [] zr (xF m k);rw[hn] at this;exact this
theorem Xn {m:Mo} {l:List Im} (hl:yZ l) (vv:ByteArray) (t:Ty):vR true (xL m l vv t):=
 XB (fun o n=>⟨fun h0=>⟨((Xm hl _ vv [] o n).1 h0).1,fun h=>by cases h⟩,(Xm hl _ vv [] o n).2⟩) 10 t
theorem VO {c:Nat->Int} (h:∀i,0<=c i/\c i<=8):∀k,0<=jY c k/\jY c k<=8
 |0=>⟨by show (0:Int)<=0; omega,by show (0:Int)<=8; omega⟩
 |k+1=>by
  rw[jY]
  split
  ·exact VO h k
  ·exact h k
theorem JX {c:Nat->Int}:∀{k:Nat},jY c k=0->∀i,i<k->c i=0
 |0,_,i,hi=>absurd hi (by omega)
 |k+1,h,i,hi=>by
  rw[jY] at h
  by_cases h0:jY c k≠0
  ·rw[if_pos h0] at h; exact absurd h h0
  ·rw[if_neg h0] at h
   rcases Nat.lt_or_ge i k with h1|h1
   ·exact JX (by simpa using h0) i h1
   ·have:i=k:=by omega
    subst this;exact h
theorem zbT {m:Mo} {l:List Im} (hl:yZ l) (vv:ByteArray) (ps:List Fd):0<=vV (xL m l vv) ps/\vV (xL m l vv) ps<=8:=by
 refine VO (fun i=>?_) _;unfold jO
 cases ps[i]? with
 |none=>exact⟨by show (0:Int)<=4; omega,by show (4:Int)<=8; omega⟩
 |some p=>
  simp only
  split
  ·exact⟨by show (0:Int)<=4; omega,by show (4:Int)<=8; omega⟩
  ·exact (Xn hl vv p.is).2
theorem zaI {m:Mo} {l:List Im} (hl:yZ l) (f:Fu):0<=yN (xL m l f.var) f/\yN (xL m l f.var) f<=8:=by
 unfold yN
 split
 ·exact zbT hl _ _
 ·exact (Xn hl _ _).2
theorem zfH {m:Mo} {l:List Im} (hl:yZ l) {f:Fu} (h:yN (xL m l f.var) f=0):xD (xL m l f.var f.result).1=true/\(qF (xL m l f.var) f.params).all xD=true:=by
 unfold yN at h
 by_cases hp:vV (xL m l f.var) f.params≠0
 ·rw[if_pos hp] at h; exact absurd h hp
 ·rw[if_neg hp] at h
  refine⟨((Xn hl _ _).1 h).1,?_⟩;rw[List.all_eq_true];intro x hx;obtain⟨j,hj,rfl⟩:=List.getElem_of_mem hx;have hj':j<f.params.length:=by simpa [qF] using hj
  have h0:=JX (c:=fun i=>(jO (xL m l f.var) f.params i).2) (k:=f.params.length) (by simpa [vV] using hp) j hj';have h1:(jO (xL m l f.var) f.params j).2=0:=h0;rw[K3 hj'] at h1;rw[JI hj' hj]
  by_cases hh:Qa (f.params.take j) f.params[j].name=true
  ·rw[if_pos hh] at h1; cases h1
  ·rw[if_neg hh] at h1
   exact ((Xn hl _ _).1 h1).1
theorem QG {α:Type} {fault:α->Int} {name:α->ByteArray}:∀{l:List α} {p:ByteArray},(∀x∈l,fault x=0)->(∀x∈l,gtB (name x) p=true)->xN name l->zw fault name l p=0
 |[],_,_,_,_=>rfl
 |x::r,p,h0,hp,hr=>by
  rw[zw,if_pos (h0 x (List.mem_cons_self ..)),if_pos (hp x (List.mem_cons_self ..))];exact QG (fun y hy=>h0 y (List.mem_cons_of_mem _ hy)) (fun y hy=>List.rel_of_pairwise_cons hr hy) hr.tail
theorem zg2 {m:Mo} {l:List Im} (hl:yZ l) (h0:zI m=0) (hzm:Zi m):zW (ZH m l)=0:=by
 have hcnt:=Qm h0 hzm;have h1:=zbC m l m.types.length;have h2:=zbE m l m.funcs.length;have hk:∀k∈xT m l m.types.length,X5 k=true:=fun k hk=>by
  obtain⟨q,hq,hc,rfl⟩:=zae hk;have hg:=(JW (m:=m) hl q).1 hc;have hi:=(Zb h0 _ (List.getElem_mem hq)).1;unfold X5;show (zf (xF m q)&&(xD (qw m l q).1&&!xM (qw m l q).1))=true;rw[kg hq,hi,hg.1,hg.2 rfl]; rfl
 have hs:∀g∈yJ m l m.funcs.length,V5 g=true:=fun g hg=>by
  obtain⟨f,hf,hc,rfl⟩:=zag hg;obtain⟨hi,h8,_⟩:=kb h0 f hf;obtain⟨hr,hp⟩:=zfH hl hc;unfold V5;show (zf f.name&&(decide ((qF (xL m l f.var) f.params).length<=8)&&(xD (xL m l f.var f.result).1&&(qF (xL m l f.var) f.params).all xD)))=true;have h9:(qF (xL m l f.var) f.params).length<=8:=by unfold qF; rw[List.length_map]; exact h8
  rw[hi,hr,hp,decide_eq_true h9]; rfl
 have hw:wrap64 (((xT m l m.types.length).length:Int)+(yJ m l m.funcs.length).length)=((xT m l m.types.length).length:Int)+(yJ m l m.funcs.length).length:=by unfold wrap64; omega
 unfold zW ZH;simp only;rw[hw,if_neg (by omega)];have e1:zw xY Kn.name (xT m l m.types.length) ⟨#[]⟩=0:=QG (fun k h=>by unfold xY; rw[hk k h]; rfl) (fun k h=>V7 (by
  have:=hk k h;unfold X5 at this;rw[Bool.and_eq_true] at this;exact this.1)) (Qb (Nat.le_refl _))
 rw[if_pos e1];exact QG (fun g h=>by unfold vE; rw[hs g h]; rfl) (fun g h=>V7 (by
  have:=hs g h;unfold V5 at this;rw[Bool.and_eq_true] at this;exact this.1)) (Qc (Nat.le_refl _))
def XM (d:Dg):Prop:=(1<=d.code/\d.code<=8)/\(d.wh.size=0->d.code=1)
theorem Jl {s:ByteArray} {c:Int} (hs:zf s=true) (h:0<=c/\c<=8) (h0:c≠0):XM ⟨s,c⟩:=
 ⟨⟨by show 1<=c; omega,h.2⟩,fun hz=>by have:=X8 hs; have hz':s.size=0:=hz; omega⟩
theorem zam {u:List ByteArray} {l:List Im} (hu:∀s∈u,zf s=true):∀k,k<=u.length->∀d∈z7 u l k,XM d
 |0,_,d,hd=>by cases hd
 |k+1,hk,d,hd=>by
  rw[z7] at hd
  rcases List.mem_append.1 hd with h|h
  ·exact zam hu k (by omega) d h
  ·unfold ZT at h
   by_cases hc:qP u l k=0
   ·rw[if_pos hc] at h; cases h
   ·rw[if_neg hc] at h
    rw[List.mem_singleton.1 h];refine Jl (by rw[Zy (by omega)]; exact hu _ (List.getElem_mem _)) ?_ hc;unfold qP
    split
    ·omega
    ·split <;> omega
theorem JY {m:Mo} {l:List Im} (hl:yZ l) (h0:zI m=0):∀k,k<=m.types.length->∀d∈qp m l k,XM d
 |0,_,d,hd=>by cases hd
 |k+1,hk,d,hd=>by
  rw[qp] at hd
  rcases List.mem_append.1 hd with h|h
  ·exact JY hl h0 k (by omega) d h
  ·unfold Vs at h
   by_cases hc:(qw m l k).2=0
   ·rw[if_pos hc] at h; cases h
   ·rw[if_neg hc] at h
    rw[List.mem_singleton.1 h];refine Jl (by rw[kg (by omega)]; exact (Zb h0 _ (List.getElem_mem _)).1) (JW hl k).2 hc
theorem XN {α:Type} {f:α->Int}:∀{l:List α},(∀x∈l,0<=f x/\f x<=8)->0<=zt f l/\zt f l<=8
 |[],_=>⟨by show (0:Int)<=0; omega,by show (0:Int)<=8; omega⟩
 |x::r,h=>by
  rw[zt]
  split
  ·exact XN fun y hy=>h y (List.mem_cons_of_mem _ hy)
  ·exact h x (List.mem_cons_self ..)
theorem zcy (k:Int) (sg:Sg) (is:List ByteArray):0<=(xf k sg is).2/\(xf k sg is).2<=8:=by
 unfold xf xq
 repeat' split
 all_goals simp
theorem VP {k:Int} {sg:Sg} {rs:List (ByteArray×Int)} (h:∀r∈rs,0<=r.2/\r.2<=8):0<=(jZ k sg rs).2/\(jZ k sg rs).2<=8:=by
 unfold jZ
 split
 ·exact zcy _ _ _
 ·exact XN h
mutual
theorem JZ {ps:List Kn} {fc:ByteArray->Fc}:∀x:Ex,0<=(qk ps fc x).2/\(qk ps fc x).2<=8
 |.mk k n o s xs=>by
  have hx:=VQ (ps:=ps) (fc:=fc) xs;rw[qk]
  split
  ·simp
  ·split
   ·simp
   ·split
    ·unfold xV xq
     split <;> simp
    ·split
     ·split
      ·exact VP hx
      ·unfold ZX xq
       repeat' split
       all_goals simp
     ·exact VP hx
theorem VQ {ps:List Kn} {fc:ByteArray->Fc}:∀l:List Ex,∀r∈vL ps fc l,0<=r.2/\r.2<=8
 |[]=>by simp[vL]
 |x::l=>by
  rw[vL];intro r hr
  rcases List.mem_cons.1 hr with e|e
  ·rw[e]; exact JZ x
  ·exact VQ l r e
end
theorem Ko {m:Mo} {l:List Im} {own:Fc} (hl:yZ l) {k:Nat} (hk:k<m.funcs.length):0<=yL m l own k/\yL m l own k<=8:=by
 unfold yL
 split
 ·split
  ·split <;> omega
  ·rw[zac hk]; exact JZ _
 ·rw[(kz hk).1]
  split
  ·omega
  ·exact zaI hl _
theorem VR {m:Mo} {l:List Im} {own:Fc} (hl:yZ l) (h0:zI m=0):∀k,k<=m.funcs.length->∀d∈ql m l own k,XM d
 |0,_,d,hd=>by cases hd
 |k+1,hk,d,hd=>by
  rw[ql] at hd
  rcases List.mem_append.1 hd with h|h
  ·exact VR hl h0 k (by omega) d h
  ·unfold QH at h
   by_cases hc:yL m l own k=0
   ·rw[if_pos hc] at h; cases h
   ·rw[if_neg hc] at h
    rw[List.mem_singleton.1 h];exact Jl (by rw[Y6 (by omega)]; exact (kb h0 _ (List.getElem_mem _)).1) (Ko hl (by omega)) hc
theorem zeb {m:Mo} {l:List Im} {own:Fc} (hl:yZ l) (h0:zI m=0):∀d∈jR m l own,XM d:=fun d hd=>by
 unfold jR at hd
 rcases List.mem_append.1 hd with h|h
 ·exact zam (Vp h0) _ (Nat.le_refl _) d h
 ·rcases List.mem_append.1 h with h|h
  ·exact JY hl h0 _ (Nat.le_refl _) d h
  ·exact VR hl h0 _ (Nat.le_refl _) d h
theorem zan {l:List Im} (h:xE l=0):yZ l:=fun i hi=>by
 have:=(YU (fun _ h=>h) (ze7 h) i hi).2;unfold xZ at this
 by_cases h1:zf i.name=true
 ·rw[if_pos h1] at this
  by_cases h2:zW i.face=0
  ·exact h2
  ·rw[if_neg h2] at this; exact this
 ·rw[if_neg h1] at this; cases this
def imP (own:Fc) (p:ByteArray×Bool):Im:=⟨p.1,!(p.1.toList==[100]),if p.2=true then own else Ym⟩
def yP (ps:List (ByteArray×Bool)) (x y:Value):List Value:=ps.flatMap fun p=>ZQ p.1 (!(p.1.toList==[100])) p.2 x y
theorem zec (ps:List (ByteArray×Bool)) (p:ByteArray×Bool) (x y:Value):yP (ps++[p]) x y=yP ps x y++ZQ p.1 (!(p.1.toList==[100])) p.2 x y:=by simp[yP]
theorem zao (x y:Value):∀ps,(yP ps x y).length=ps.length * 4
 |[]=>rfl
 |p::r=>by
  have e:yP (p::r) x y=ZQ p.1 (!(p.1.toList==[100])) p.2 x y++yP r x y:=by simp[yP]
  rw[e,List.length_append,zao x y r,List.length_cons];show 4+_=_;omega
theorem zbU (x y:Value):∀(ps:List (ByteArray×Bool)) (q:Nat) (hq:q<ps.length) (j:Nat),j<4->(yP ps x y)[q * 4+j]? = (ZQ ps[q].1 (!(ps[q].1.toList==[100])) ps[q].2 x y)[j]?
 |[],q,hq,_,_=>absurd hq (by simp)
 |p::r,0,_,j,hj=>by
  have e:yP (p::r) x y=ZQ p.1 (!(p.1.toList==[100])) p.2 x y++yP r x y:=by simp[yP]
  rw[e,List.getElem?_append_left (by show 0 * 4+j<4; omega),Nat.zero_mul,Nat.zero_add]
  rfl
 |p::r,q+1,hq,j,hj=>by
  have e:yP (p::r) x y=ZQ p.1 (!(p.1.toList==[100])) p.2 x y++yP r x y:=by simp[yP]
  rw[e,List.getElem?_append_right (by show 4<=_; omega)];have e2:(q+1) * 4+j - (ZQ p.1 (!(p.1.toList==[100])) p.2 x y).length=q * 4+j:=by show _ - 4=_; omega
  rw[e2,zbU x y r q (by simpa using hq) j hj]
  rfl
theorem zc5 {w:World} {base:Nat} {e:TypeId} {c g n cap:Nat} {xs:List Value} (h:w.ownsRow base e c (.slice (some ⟨g,0,none⟩) n cap) n xs) (i:Nat) (v:Value):(w.setCell ⟨g,i,none⟩ v).ownsRow base e c (.slice (some ⟨g,0,none⟩) n cap) n (xs.set i v):=by
 obtain⟨hl,⟨h1,_⟩|⟨g',cap',cur,h1,hb,hg,hc,hm,hs,ht⟩⟩:=h
 ·cases h1
 ·cases h1
  refine⟨by simp[hl],Or.inr ⟨g,cap,cur.setIfInBounds i v,rfl,hb,vM hg _ _,hc,hm,by simp[hs],?_⟩⟩;rw[Array.toList_setIfInBounds,List.take_set,ht]
theorem zg3 (pre:List Value) (u:ByteArray) (t b:Bool) (x y:Value) (n:Nat) (hn:pre.length=n * 4):((pre++ZQ u t b x y).set (n * 4+2) (.slice none 0 0)).set (n * 4+2+1) (.slice none 0 0)=pre++ZQ u t false x y:=by
 rw[List.set_append_right _ _ (by omega),List.set_append_right _ _ (by omega),hn,show n * 4+2 - n * 4=2 by omega,show n * 4+2+1 - n * 4=3 by omega];simp[ZQ]
theorem zhR {w:World} {base:Nat} {v:Value} {ps:List (ByteArray×Bool)} {own:Fc} {x y:Value} (h:w.ownsRow base 49 4 v ps.length (yP ps x y)) (hl:ps.length<=maxLen) (h8:∀p∈ps,p.1.size<=maxLen) (hf:qC (fun b=>b<w.heap.size) w own (.agg #[x,y])) :
  ze (fun b=>b<w.heap.size) (yd (fun b=>b<w.heap.size) w) 4 (ps.map (imP own)) v:=by
 obtain⟨x1,y1,he,hf1⟩:=hf;injection he with he
 have he':[x,y]=[x1,y1]:=congrArg Array.toList he;injection he' with e1 e2
 injection e2 with e2 _
 subst e1 e2;obtain⟨hx,⟨hv,hn⟩|⟨g,cap,cur,hv,hg,hh,h1,h2,h3,h4⟩⟩:=h
 ·have:ps=[]:=List.length_eq_zero_iff.1 hn
  subst this hv;exact yo
 ·subst hv
  refine⟨_,cap,by rw[List.length_map],⟨by rw[List.length_map]; exact hl,by rw[List.length_map]; exact h1⟩,Or.inr ⟨g,0,rfl,?_,qA.mk fun i hi=>?_⟩⟩
  ·rcases Nat.lt_or_ge g w.heap.size with h|h
   ·exact h
   ·rw[Array.getElem?_eq_none h] at hh
    cases hh
  ·rw[List.length_map] at hi
   have hc:∀j u,j<ps.length * 4->(yP ps x y)[j]? = some u->w.cell? ⟨g,j,none⟩=some u:=fun j u hj' hj=>by
    rw[<- h4,List.getElem?_take_of_lt hj'] at hj;simpa [World.cell?,hh] using hj
   have ha:=zbU x y ps i hi;rw[Nat.zero_add,List.getElem_map];refine⟨⟨hc (i * 4+0) _ (by omega) (ha 0 (by omega)),h8 _ (List.getElem_mem hi)⟩,hc (i * 4+1) _ (by omega) (ha 1 (by omega)),_,_,hc (i * 4+2) _ (by omega) (ha 2 (by omega)),hc (i * 4+3) _ (by omega) (ha 3 (by omega)),?_⟩;unfold imP
   by_cases hb:ps[i].2=true
   ·simp only[hb,if_true]; exact hf1
   ·simp only[if_neg hb]; exact⟨yo,yo⟩
theorem Kp:zW Ym=0:=by decide +kernel
theorem zfI:yI Ym=true:=by decide +kernel
theorem Yn:zH Ym:=⟨⟨by show 0 * 32<=_; omega,fun _ h=>by cases h⟩,by show 0 * 56<=_; omega,fun _ h=>by cases h⟩
theorem zhS {us:List ByteArray} {own:Fc} {ps:List (ByteArray×Bool)} (hr:xN (fun s:ByteArray=>s) us) (hid:∀u∈us,zf u=true) (h24:us.length<=24) (hf:zW own=0) (hps:ps.map (·.1)=us) (hd:∀p∈ps,(p.1.toList==[100])=true->p.2=false):xE (ps.map (imP own))=0:=by
 have hlen:ps.length=us.length:=by rw[<- hps,List.length_map]
 unfold xE;rw[if_neg (by rw[List.length_map]; omega)];have hid':∀p∈ps,zf p.1=true:=fun p hp=>hid _ (by rw[<- hps]; exact List.mem_map_of_mem hp)
 refine QG (fun i hi=>?_) (fun i hi=>?_) ?_
 ·obtain⟨p,hp,rfl⟩:=List.mem_map.1 hi
  unfold xZ;rw[if_pos (show zf (imP own p).name=true from hid' p hp)];have hface:zW (imP own p).face=0:=by
   unfold imP
   by_cases hb:p.2=true
   ·simp only[hb,if_true]; exact hf
   ·simp only[if_neg hb]; exact Kp
  rw[if_pos hface];have:((imP own p).there||yI (imP own p).face)=true:=by
   unfold imP
   cases h:(p.1.toList==[100]) with
   |false=>rfl
   |true=>
    rw[hd p hp h];exact zfI
  rw[this]; rfl
 ·obtain⟨p,hp,rfl⟩:=List.mem_map.1 hi
  exact V7 (hid' p hp)
 ·have:=hr
  rw[<- hps] at this;unfold xN at *;rw[List.pairwise_map] at this ⊢;exact this
theorem zfJ {s:ByteArray} {l:List Im} (hz:∀i∈l,zH i.face):zW (jb s l)=0/\zH (jb s l)/\∀d∈kF s l,XM d:=by
 obtain⟨h0,hzm⟩:=jS s;unfold jb kF
 by_cases hi:xE l=0
 ·rw[if_pos hi,if_pos hi]
  by_cases hr:xX s=0
  ·rw[if_pos hr,if_pos hr]
   exact⟨zg2 (zan hi) h0 hzm,Ve hz h0 hzm,zeb (zan hi) h0⟩
  ·rw[if_neg hr,if_neg hr]
   refine⟨Kp,Yn,fun d hd=>?_⟩;simp at hd;subst hd;exact⟨⟨by show (1:Int)<=1; omega,by show (1:Int)<=8; omega⟩,fun _=>rfl⟩
 ·rw[if_neg hi,if_neg hi]
  exact⟨Kp,Yn,fun d hd=>by cases hd⟩
theorem zap {own:Fc} {ps:List (ByteArray×Bool)} (hz:zH own):∀i∈ps.map (imP own),zH i.face:=fun i hi=>by
 obtain⟨p,_,rfl⟩:=List.mem_map.1 hi;unfold imP
 by_cases hb:p.2=true
 ·simp only[hb,if_true]; exact hz
 ·simp only[if_neg hb]; exact Yn
end Go.Proofs.YtedpiamfpbdhoaaGreatDoor
