import Derived.Test.YtedpiamfpbdhoaaGreatDoorJFg19
import Derived.Shelf.SlSortCmp.WholeK
import Derived.Lib.SlicesCompact
set_option maxHeartbeats 40000000
set_option maxRecDepth 100000
namespace Go.Proofs.YtedpiamfpbdhoaaGreatDoor
open Go.RowKit
def jg (met:List Nat):Nat->Nat
 |0=>0
 |n+1=>jg met n+(if met.contains n=true then 0 else 1)
theorem zbu (met:List Nat) (k:Nat):∀n,jg (k::met) n<=jg met n
 |0=>Nat.le_refl _
 |n+1=>by
  have:=zbu met k n;unfold jg
  by_cases h:met.contains n=true
  ·rw[if_pos h,if_pos (by rw[List.contains_cons,h]; simp)]; omega
  ·rw[if_neg h]
   split <;> omega
theorem j8 {met:List Nat} {k:Nat} (hk:met.contains k=false):∀{n},k<n->jg (k::met) n+1<=jg met n
 |0,h=>absurd h (by omega)
 |n+1,h=>by
  unfold jg
  by_cases hkn:k=n
  ·subst hkn
   have:=zbu met k k;rw[if_pos (by simp),if_neg (by rw[hk]; simp)]; omega
  ·have:=j8 hk (n:=n) (by omega)
   by_cases h:met.contains n=true
   ·rw[if_pos h,if_pos (by rw[List.contains_cons,h]; simp)]; omega
   ·rw[if_neg h]
    split <;> omega
theorem Yb {met:List Nat}:∀{n},jg met n=0->∀i,i<n->met.contains i=true
 |0,_,i,hi=>absurd hi (by omega)
 |n+1,h,i,hi=>by
  unfold jg at h
  by_cases hn:met.contains n=true
  ·rw[if_pos hn] at h
   by_cases hin:i=n
   ·subst hin; exact hn
   ·exact Yb (n:=n) (by omega) i (by omega)
  ·rw[if_neg hn] at h; omega
theorem Xg {u:List ByteArray} {l:List Im} (hz:∀i∈l,zH i.face) (o n:ByteArray):(Xt u l o n).1.size<=maxLen:=by
 have hr:=reachBytes_lt;show (jN u l o n).size<=_;unfold jN
 split
 ·unfold ja
  cases hk:(zK u l o).types[jf (zK u l o) n]? with
  |none=>exact Nat.zero_le _
  |some k=>
   have:=(Zx (u:=u) o hz).1.2 k (List.mem_of_getElem? hk);have h2:=this.2;show k.is.size<=_;unfold maxLen; omega
 ·exact Nat.zero_le _
theorem Yc {m:Mo} {l:List Im} (hz:∀i∈l,zH i.face):∀(u:Nat) (met:List Nat) (o n:ByteArray),(qt m l u met o n).1.size<=maxLen
 |0,met,o,n=>by
  unfold qt
  split
  ·split <;> exact Nat.zero_le _
  ·exact Xg hz o n
 |u+1,met,o,n=>by
  unfold qt
  split
  ·cases m.types[zq m n]? with
   |none=>exact Nat.zero_le _
   |some f=>
    simp only
    split
    ·exact Nat.zero_le _
    ·exact kO (fun o n=>Yc hz u _ o n) 10 _
  ·exact Xg hz o n
theorem zcS {m:Mo} {n:ByteArray} (h:zq m n<m.types.length):zC (fun k:Fd=>sEq k.name n) m.types=(zq m n:Int):=if_pos h
theorem zhz {m:Mo} {n:ByteArray} (h:¬zq m n<m.types.length):zC (fun k:Fd=>sEq k.name n) m.types=-1:=if_neg h
theorem zbv {m:Mo} {l:List Im} {u:Nat} {met:List Nat} {o n:ByteArray} (h:o.toList.isEmpty=false):qt m l u met o n=Xt m.uses l o n:=by
 cases u <;> (unfold qt; rw[if_neg (by rw[h]; simp)])
theorem ze9 {m:Mo} {l:List Im} {u:Nat} {met:List Nat} {o n:ByteArray} (h:o.toList.isEmpty=true) (ha:¬zq m n<m.types.length):qt m l u met o n=(zr,5):=by
 cases u with
 |zero=>unfold qt; rw[if_pos h,if_neg ha]
 |succ u=>unfold qt; rw[if_pos h,List.getElem?_eq_none (by omega)]
theorem zdJ {m:Mo} {l:List Im} {u:Nat} {met:List Nat} {o n:ByteArray} (h:o.toList.isEmpty=true) (ha:zq m n<m.types.length) (hm:met.contains (zq m n)=true):qt m l u met o n=(zr,2):=by
 cases u with
 |zero=>unfold qt; rw[if_pos h,if_pos ha]
 |succ u=>unfold qt; rw[if_pos h,List.getElem?_eq_getElem ha]; simp only; rw[if_pos hm]
theorem zhA {m:Mo} {l:List Im} {u:Nat} {met:List Nat} {o n:ByteArray} (h:o.toList.isEmpty=true) (ha:zq m n<m.types.length) (hm:met.contains (zq m n)=false):qt m l (u+1) met o n=zo (qt m l u (zq m n::met)) 10 m.types[zq m n].is:=by
 unfold qt; rw[if_pos h,List.getElem?_eq_getElem ha]; simp only; rw[if_neg (by rw[hm]; simp)]
theorem zce {S:Nat->Prop} {w:World} {m:Mo} {x y z:Value} (h:qT S w m (.agg #[x,y,z])):ze S (qO S w) 5 m.types y:=by
 obtain⟨vu,vt,vf,e,_,h2,_⟩:=h;injection e with e
 have e':[x,y,z]=[vu,vt,vf]:=congrArg Array.toList e;injection e' with _ e'
 injection e' with e2 _
 rw[e2]; exact h2
theorem KX (w0:World) (S:Nat->Prop) (hS:∀b,S b->b<w0.heap.size) (m:Mo) (l:List Im) (u1 t1 f1 la:Option Addr) (u2 u3 t3 f2 f3 ln lc:Nat) (hm:qT S w0 m (.agg #[.slice u1 u2 u3,.slice t1 m.types.length t3,.slice f1 f2 f3])) (hl:ze S (yd S w0) 4 l (.slice la ln lc)) (hz:∀i∈l,zH i.face) (mB lB tB fB aB:Nat) (u:Nat) (met:List Nat) (o n:ByteArray) (W:World) (henv:SEnv w0 mB lB tB fB aB (.slice u1 u2 u3) (.slice t1 m.types.length t3) (.slice f1 f2 f3) (.slice la ln lc) m.types.length met W)
  (hon:∀(ha:zq m n<m.types.length),o.toList.isEmpty=true->met.contains (zq m n)=false->∀W' v,SEnv w0 mB lB tB fB aB (.slice u1 u2 u3) (.slice t1 m.types.length t3) (.slice f1 f2 f3) (.slice la ln lc) m.types.length (zq m n::met) W'->vi S W' m.types[zq m n].is v->Calls Tryz.prog 180 #[v,.func (.func 258) #[] #[.pointer (some ⟨mB,0,none⟩),.pointer (some ⟨lB,0,none⟩),.pointer (some ⟨tB,0,none⟩),.pointer (some ⟨fB,0,none⟩)]] W' (xS w0 (qt m l u met o n))) :
  Calls Tryz.prog 258 #[.string o,.string n,.pointer (some ⟨mB,0,none⟩),.pointer (some ⟨lB,0,none⟩),.pointer (some ⟨tB,0,none⟩),.pointer (some ⟨fB,0,none⟩)] W (xS w0 (qt m l u met o n)):=by
 have hb:=henv.below;have hSW:∀b,S b->b<W.heap.size:=fun b h=>Nat.lt_of_lt_of_le (hS b h) hb.size
 have HB:=zd hb;have HEnv:=zd henv;have hmW:=hm.keep (Keeps.below hb hS);have hlW:=qd (Keeps.below hb hS) hl;have c0:=henv.m0;have c1:=henv.m1;have c2:=henv.m2;have c3:=henv.lc;have c4:=henv.tc;have c5:=henv.fc;have hmB:=World.block_lt_of_cell? _ _ c0
 cases ho:o.toList.isEmpty with
 |false=>
  have HI:Hid (Calls Tryz.prog 259 #[.agg #[.slice u1 u2 u3,.slice t1 m.types.length t3,.slice f1 f2 f3],.slice la ln lc,.string o,.string n] W fun e w'=>e=.returned (.tuple #[.string (jN m.uses l o n),.int .i64 (Qn m.uses l o n)])/\Below W.heap.size W w'):=zbr S m l o n _ _ W hSW hmW hlW hz;have HR:Hid (qt m l u met o n=(jN m.uses l o n,Qn m.uses l o n)):=zbv ho;clear hon hmW hlW hm hl hz henv hb hSW c4 c5;generalize qt m l u met o n=r at *;generalize jN m.uses l o n=iv at *;generalize Qn m.uses l o n=ie at *;go_enter Tryz.func258,Tryz.ntmps258;go_wp2_with fail;refine HI.out.mono ?_;rintro e w3 ⟨rfl,hb3⟩;have HB3:=zd (HB.out.trans (hb3.mono HB.out.size));clear hb3;go_wp2_with fail;go_ret2;exact⟨by rw[HR.out]; rfl,HB3.out⟩
 |true=>
  have hts:=zce hmW;have HN:Hid (Calls Tryz.prog 174 #[.slice t1 m.types.length t3,.string n] W fun e w'=>e=.returned (.int .i64 (zC (fun k:Fd=>sEq k.name n) m.types))/\Below W.heap.size W w'):=KW S m.types n _ W hSW hts
  by_cases ha:zq m n<m.types.length
  ·rw[zcS ha] at HN
   cases hc:met.contains (zq m n) with
   |true=>
    have HR:Hid (qt m l u met o n=(zr,2)):=zdJ ho ha hc;obtain⟨g0,_⟩:=henv.arr _ ha;rw[hc] at g0;have HG:=zd g0;have hgl:=World.block_lt_of_cell? _ _ g0;clear hon hmW hlW hm hl hz henv hb hts hSW c5 g0 hc;generalize qt m l u met o n=r at *;generalize zq m n=k at *;have hk':(k:Int)<(m.types.length:Int):=by omega
    have hk0:¬(k:Int)<0:=by omega
    have hk1:(0:Int)<=(k:Int):=by omega
    go_enter Tryz.func258,Tryz.ntmps258;go_wp2_with fail;refine HN.out.mono ?_;rintro e w3 ⟨rfl,hb3⟩;have HB3:=zd (HB.out.trans (hb3.mono HB.out.size));have d4:=(hb3.cell (World.block_lt_of_cell? _ _ c4)).trans c4;have dg:=(hb3.cell (p:=⟨aB,k,none⟩) hgl).trans HG.out;clear hb3;go_wp2_with fail;go_ret2;exact⟨by rw[HR.out]; rfl,HB3.out⟩
   |false=>
    obtain⟨g0,gf⟩:=henv.arr _ ha;rw[hc] at g0;obtain⟨_,b,off,rfl,hb',hat⟩:=hts.at ha;obtain⟨kd,fo,na,p1,p2,p3,a0,a1,a2,a3,a4,hcs⟩:=Zc hat;have hbk:=hSW b hb';have hlow:=henv.low;have hbS:=hS b hb';have hgl:=World.block_lt_of_cell? _ _ g0;have HOn:=zd (hon ha ho hc);have HIs:Hid (∀W',Below W.heap.size W W'->vi S (W'.setCell ⟨aB,zq m n,none⟩ (.bool true)) m.types[zq m n].is (.agg #[.int .i64 kd,.string fo,.string na,.slice p1 p2 p3])):=fun W' hW'=>
     ⟨_,_,_,_,rfl,(hcs.keep (Keeps.below hW' hSW)).keep ⟨fun b hb2=>Below.heap_setCell _ _ _ _ (by show b≠aB; have:=hS b hb2; omega),fun _ h=>h⟩⟩
    have HCell:Hid (∀W',Below W.heap.size W W'->(W'.setCell ⟨aB,zq m n,none⟩ (.bool true)).cell? ⟨b,off+zq m n * 5+1,none⟩=some (.int .i64 kd)/\(W'.setCell ⟨aB,zq m n,none⟩ (.bool true)).cell? ⟨b,off+zq m n * 5+2,none⟩=some (.string fo)/\(W'.setCell ⟨aB,zq m n,none⟩ (.bool true)).cell? ⟨b,off+zq m n * 5+3,none⟩=some (.string na)/\(W'.setCell ⟨aB,zq m n,none⟩ (.bool true)).cell? ⟨b,off+zq m n * 5+4,none⟩=some (.slice p1 p2 p3)):=fun W' hW'=>by
     have hne:aB≠b:=by omega
     refine⟨?_,?_,?_,?_⟩
     ·rw[World.cell?_setCell_far _ _ _ _ hne]; exact (hW'.cell (p:=⟨b,_,none⟩) hbk).trans a1
     ·rw[World.cell?_setCell_far _ _ _ _ hne]; exact (hW'.cell (p:=⟨b,_,none⟩) hbk).trans a2
     ·rw[World.cell?_setCell_far _ _ _ _ hne]; exact (hW'.cell (p:=⟨b,_,none⟩) hbk).trans a3
     ·rw[World.cell?_setCell_far _ _ _ _ hne]; exact (hW'.cell (p:=⟨b,_,none⟩) hbk).trans a4
    have HMeet:Hid (∀W',Below W.heap.size W W'->SEnv w0 mB lB tB fB aB (.slice u1 u2 u3) (.slice (some ⟨b,off,none⟩) m.types.length t3) (.slice f1 f2 f3) (.slice la ln lc) m.types.length (zq m n::met) (W'.setCell ⟨aB,zq m n,none⟩ (.bool true))):=fun W' hW'=>(HEnv.out.keep hW').meet ha
    have HG:=zd g0;have HGf:=zd gf;clear hon hmW hlW hm hl hz henv hb hts hSW hat hcs a0 a1 a2 a3 a4 g0 gf hc;generalize qt m l u met o n=r at *;generalize m.types[zq m n].is=ty at *;generalize zq m n=k at *;have hk':(k:Int)<(m.types.length:Int):=by omega
    have hk0:¬(k:Int)<0:=by omega
    have hk1:(0:Int)<=(k:Int):=by omega
    go_enter Tryz.func258,Tryz.ntmps258;go_wp2_with fail;refine HN.out.mono ?_;rintro e w3 ⟨rfl,hb3⟩;have d4:=(hb3.cell (World.block_lt_of_cell? _ _ c4)).trans c4;have dg:=(hb3.cell (p:=⟨aB,k,none⟩) hgl).trans HG.out;have dgf:=(hb3.frozen (p:=⟨aB,k,none⟩) hgl).trans HGf.out;have HM3:=zd (HMeet.out w3 hb3);obtain⟨q1,q2,q3,q4⟩:=HCell.out w3 hb3;have HI3:=zd (HIs.out w3 hb3);have e1:=HM3.out.m1;have e5:=HM3.out.fc;clear hb3;have HM4:=zd (HM3.out.keep ((Below.refl _ _).drew));have HI4:Hid (vi S (w3.setCell ⟨aB,k,none⟩ (.bool true)).drew ty (.agg #[.int .i64 kd,.string fo,.string na,.slice p1 p2 p3])):=vi.keep (w:=w3.setCell ⟨aB,k,none⟩ (.bool true)) (w':=(w3.setCell ⟨aB,k,none⟩ (.bool true)).drew) (S:=S) (S':=S) ⟨fun _ _=>rfl,fun _ h=>h⟩ HI3.out;go_wp2_with fail
    go_region_with (go_at_call 180; refine (HOn.out _ _ HM4.out HI4.out).mono ?_; rintro e w4 ⟨rfl,hb4⟩)
    all_goals
     have HB4:=zd hb4;clear hb4;go_wp2_with fail;go_ret2;exact⟨rfl,HB4.out⟩
  ·rw[zhz ha] at HN
   have HR:Hid (qt m l u met o n=(zr,5)):=ze9 ho ha;clear hon hmW hlW hm hl hz henv hb hts hSW c4 c5 ha;generalize qt m l u met o n=r at *;go_enter Tryz.func258,Tryz.ntmps258;go_wp2_with fail;refine HN.out.mono ?_;rintro e w3 ⟨rfl,hb3⟩;have HB3:=zd (HB.out.trans (hb3.mono HB.out.size));clear hb3;go_wp2_with fail;go_ret2;exact⟨by rw[HR.out]; rfl,HB3.out⟩
theorem zgC (w0:World) (S:Nat->Prop) (hS:∀b,S b->b<w0.heap.size) (m:Mo) (l:List Im) (u1 t1 f1 la:Option Addr) (u2 u3 t3 f2 f3 ln lc:Nat) (hm:qT S w0 m (.agg #[.slice u1 u2 u3,.slice t1 m.types.length t3,.slice f1 f2 f3])) (hl:ze S (yd S w0) 4 l (.slice la ln lc)) (hz:∀i∈l,zH i.face) (hty:∀f∈m.types,zl f.is 1=0)
  (mB lB tB fB aB:Nat):∀(u:Nat) (met:List Nat),jg met m.types.length<=u->∀(o n:ByteArray) (W:World),SEnv w0 mB lB tB fB aB (.slice u1 u2 u3) (.slice t1 m.types.length t3) (.slice f1 f2 f3) (.slice la ln lc) m.types.length met W->
  Calls Tryz.prog 258 #[.string o,.string n,.pointer (some ⟨mB,0,none⟩),.pointer (some ⟨lB,0,none⟩),.pointer (some ⟨tB,0,none⟩),.pointer (some ⟨fB,0,none⟩)] W (xS w0 (qt m l u met o n)):=by
 intro u
 induction u with
 |zero=>
  intro met hu o n W henv;refine KX w0 S hS m l u1 t1 f1 la u2 u3 t3 f2 f3 ln lc hm hl hz mB lB tB fB aB 0 met o n W henv (fun ha _ hc=>?_);rw[Yb (by omega) _ ha] at hc
  cases hc
 |succ u ih=>
  intro met hu o n W henv;refine KX w0 S hS m l u1 t1 f1 la u2 u3 t3 f2 f3 ln lc hm hl hz mB lB tB fB aB (u+1) met o n W henv (fun ha ho hc W' v hW' hv=>?_);rw[zhA ho ha hc];have hlt:=j8 hc ha;exact zhy w0 S hS (qt m l u (zq m n::met)) (fun o n=>Yc hz u _ o n) (SEnv w0 mB lB tB fB aB (.slice u1 u2 u3) (.slice t1 m.types.length t3) (.slice f1 f2 f3) (.slice la ln lc) m.types.length (zq m n::met)) (fun _ h=>h.below) (fun _ _ h hb=>h.keep hb) mB lB tB fB
   (fun o' n' W hW=>ih (zq m n::met) (by omega) o' n' W hW) 10 _ 1 v W' (hty _ (List.getElem_mem ha)) (by omega) hW' hv
theorem zcf (w0:World) (S:Nat->Prop) (hS:∀b,S b->b<w0.heap.size) (ρ:ByteArray->ByteArray->Sol) (hρ:∀o n,(ρ o n).1.size<=maxLen) (Env:World->Prop) (hE0:∀W,Env W->Below w0.heap.size w0 W) (hEk:∀W W',Env W->Below W.heap.size W W'->Env W') (vB gB:Nat) (d:Nat) (HRec:Hid (∀(t:Ty) (dd:Nat) (v:Value) (W:World),zl t dd=0->11<=dd+d->Env W->vi S W t v->Calls Tryz.prog 180 #[v,.func (.func 181) #[] #[.pointer (some ⟨vB,0,none⟩),.pointer (some ⟨gB,0,none⟩)]] W (xS w0 (zo ρ d t)))) (t:Ty) (dd:Nat) (o n:ByteArray) (v:Value) (W:World) (ht:zl t (dd+1)=0) (hd:11<=dd+1+d) (hW:Env W) (hv:vi S W (.mk 3 o n [t]) v) :
  Calls Tryz.prog 260 #[v,.func (.func 181) #[] #[.pointer (some ⟨vB,0,none⟩),.pointer (some ⟨gB,0,none⟩)]] W (xS w0 (yg (zo ρ d t))):=by
 obtain⟨k,f,x,va,rfl,xs,e,_,_,hsl⟩:=hv;injection e with e1 e2 e3 e4
 subst e1 e2 e3 e4;obtain⟨a,cap,rfl⟩:=hsl.is;obtain⟨_,b,off,rfl,hb,hat⟩:=hsl.at (k:=0) (by simp);simp only[List.getElem_cons_zero,Nat.zero_mul,Nat.add_zero] at hat;obtain⟨k1,f1,x1,va1,q0,q1,q2,q3,hcs1⟩:=qL.1 hat;obtain⟨a1,m1,c1,rfl⟩:∃a1 m1 c1,va1=.slice a1 m1 c1:=by
  obtain⟨_,_,_,_,hs⟩:=hcs1;exact ze.slice hs
 have hSW:∀b,S b->b<W.heap.size:=fun b hb=>Nat.lt_of_lt_of_le (hS b hb) (hE0 W hW).size
 have hbW:=hSW b hb;obtain⟨w2,rfl,p3,hbel⟩:∃w2,w2=W.alloc (.cells #[.int .i64 3,.string o,.string n,.slice (some ⟨b,off,none⟩) 1 cap] 67)/\w2.cell? ⟨W.heap.size,3,none⟩=some (.slice (some ⟨b,off,none⟩) 1 cap)/\Below W.heap.size W w2:=
  ⟨_,rfl,by simp[go_sem],(Below.refl _ _).alloc (Nat.le_refl _) _⟩
 have d0:=(hbel.cell (p:=⟨b,off,none⟩) hbW).trans q0;have d1:=(hbel.cell (p:=⟨b,off+1,none⟩) hbW).trans q1;have d2:=(hbel.cell (p:=⟨b,off+2,none⟩) hbW).trans q2;have d3:=(hbel.cell (p:=⟨b,off+3,none⟩) hbW).trans q3;have HR:=zd (HRec.out t (dd+1) (.agg #[.int .i64 k1,.string f1,.string x1,.slice a1 m1 c1]) _ ht hd (hEk _ _ hW hbel) ⟨_,_,_,_,rfl,hcs1.keep (Keeps.below hbel hSW)⟩);have HZ:=zd (kO hρ d t);have HL:Hid (yg (zo ρ d t)=if (zo ρ d t).2=0 then (if qq (zo ρ d t).1=0 then (yH (zo ρ d t).1,0) else (zr,5)) else (zr,(zo ρ d t).2)):=rfl;clear hat hcs1 hsl hbel HRec hρ hW hSW q0 q1 q2 q3 ht hd;generalize yg (zo ρ d t)=r at *;generalize zo ρ d t=sp at *;obtain⟨ss,sc⟩:=sp;obtain⟨rs,rc⟩:=r;simp only at HL HZ;go_enter Tryz.func260,Tryz.ntmps260;go_wp2_with fail;refine HR.out.mono ?_;rintro e w3 ⟨rfl,hb3⟩;have HB3:=zd hb3;clear hb3 HR d0 d1 d2 d3 p3
 by_cases hc:sc=0
 ·rw[if_pos hc] at HL
  subst hc
  by_cases hl:qq ss=0
  ·rw[if_pos hl] at HL
   have HR1:Hid (rs=yH ss):=(Prod.mk.inj HL.out).1;have HR2:Hid (rc=0):=(Prod.mk.inj HL.out).2;have HLo:=zd (fun W=>Xq hl W);clear hl HL;go_wp2_with fail;refine (HLo.out _).mono ?_;rintro e w4 ⟨rfl,rfl⟩;go_wp2_with fail;go_ret2;exact⟨by rw[HR1.out,HR2.out]; rfl,HB3.out⟩
  ·rw[if_neg hl] at HL
   have HR1:Hid (rs=zr):=(Prod.mk.inj HL.out).1;have HR2:Hid (rc=5):=(Prod.mk.inj HL.out).2;have HLo:=zd (fun W=>X3 HZ.out hl W);have hl':(qq ss != 0)=true:=by simpa using hl
   clear hl HL;generalize qq ss=le at *;go_wp2_with fail;refine (HLo.out _).mono ?_;rintro e w4 ⟨rfl,rfl⟩;go_wp2_with fail;go_ret2;exact⟨by rw[HR1.out,HR2.out]; rfl,HB3.out⟩
 ·rw[if_neg hc] at HL
  have HR1:Hid (rs=zr):=(Prod.mk.inj HL.out).1;have HR2:Hid (rc=sc):=(Prod.mk.inj HL.out).2;have hc':(sc != 0)=true:=by simpa using hc
  clear hc HL;go_wp2_with fail;go_ret2;exact⟨by rw[HR1.out,HR2.out]; rfl,HB3.out⟩
theorem zhB (w0:World) (S:Nat->Prop) (hS:∀b,S b->b<w0.heap.size) (ρ:ByteArray->ByteArray->Sol) (hρ:∀o n,(ρ o n).1.size<=maxLen) (Env:World->Prop) (hE0:∀W,Env W->Below w0.heap.size w0 W) (hEk:∀W W',Env W->Below W.heap.size W W'->Env W') (vB gB:Nat) (HF:∀o n W,Env W->Calls Tryz.prog 181 #[.string o,.string n,.pointer (some ⟨vB,0,none⟩),.pointer (some ⟨gB,0,none⟩)] W (xS w0 (ρ o n))):∀(d:Nat) (t:Ty) (dd:Nat) (v:Value) (W:World),zl t dd=0->11<=dd+d->Env W->vi S W t v->Calls Tryz.prog 180 #[v,.func (.func 181) #[] #[.pointer (some ⟨vB,0,none⟩),.pointer (some ⟨gB,0,none⟩)]] W (xS w0 (zo ρ d t)):=by
 intro d
 induction d with
 |zero=>
  intro t dd v W ht hd;obtain⟨k,o,n,xs⟩:=t;have:=(QZ ht).1;omega
 |succ d ih=>
  intro t dd v W ht hd hW hv;obtain⟨k,o,n,xs⟩:=t;obtain⟨_,⟨hk1,hk4⟩,h3,_⟩:=QZ ht;have HRec:Hid (∀(t:Ty) (dd:Nat) (v:Value) (W:World),zl t dd=0->11<=dd+d->Env W->vi S W t v->Calls Tryz.prog 180 #[v,.func (.func 181) #[] #[.pointer (some ⟨vB,0,none⟩),.pointer (some ⟨gB,0,none⟩)]] W (xS w0 (zo ρ d t))):=ih;have HP:Hid (zo ρ (d+1) (.mk k o n xs)=if k=1 then (Qv,0) else if k=2 then (ZB,0) else if k=3 then (match xs with
   |[]=>(zr,5)
   |t::_=>yg (zo ρ d t)) else ρ o n):=rfl
  have hv0:=hv;obtain⟨k',f',x',va,rfl,xs',e,_,_,hsl⟩:=hv;injection e with e1 e2 e3 e4
  subst e1 e2 e3 e4;obtain⟨a,m,cap,rfl⟩:=hsl.slice;have hbel:Below W.heap.size W (W.alloc (.cells #[.int .i64 k,.string o,.string n,.slice a m cap] 67)):=(Below.refl _ _).alloc (Nat.le_refl _) _;have HBel:=zd hbel;have hSW:∀b,S b->b<W.heap.size:=fun b hb=>Nat.lt_of_lt_of_le (hS b hb) (hE0 W hW).size
  have HEnd:=zd ((hE0 W hW).trans (hbel.mono (hE0 W hW).size));have hk:k=1\/k=2\/k=3\/k=4:=by omega
  rcases hk with rfl|rfl|rfl|rfl
  ·have HR:Hid (zo ρ (d+1) (.mk 1 o n xs)=(Qv,0)):=HP.out
   clear HP HRec ih h3 hv0 hsl hW hSW hρ HF;generalize zo ρ (d+1) (.mk 1 o n xs)=r at *;go_enter Tryz.func180,Tryz.ntmps180;go_wp2_with fail;go_ret2;exact⟨by rw[HR.out]; rfl,HEnd.out⟩
  ·have HR:Hid (zo ρ (d+1) (.mk 2 o n xs)=(ZB,0)):=HP.out
   clear HP HRec ih h3 hv0 hsl hW hSW hρ HF;generalize zo ρ (d+1) (.mk 2 o n xs)=r at *;go_enter Tryz.func180,Tryz.ntmps180;go_wp2_with fail;go_ret2;exact⟨by rw[HR.out]; rfl,HEnd.out⟩
  ·obtain⟨t,rfl,ht1⟩:=h3 rfl
   have HR:Hid (zo ρ (d+1) (.mk 3 o n [t])=yg (zo ρ d t)):=HP.out;have HS:=zd (zcf w0 S hS ρ hρ Env hE0 hEk vB gB d HRec t dd o n _ _ ht1 (by omega) (hEk _ _ hW hbel) (hv0.keep (Keeps.below hbel hSW)));clear HP HRec ih h3 hv0 hsl hW hSW hρ HF;generalize zo ρ (d+1) (.mk 3 o n [t])=r at *;generalize yg (zo ρ d t)=r' at *;go_enter Tryz.func180,Tryz.ntmps180;go_wp2_with fail;refine HS.out.mono ?_;rintro e w3 ⟨rfl,hb3⟩;have HB3:=zd hb3;clear hb3;go_wp2_with fail;go_ret2;exact⟨by rw[HR.out]; rfl,HB3.out⟩
  ·have HR:Hid (zo ρ (d+1) (.mk 4 o n xs)=ρ o n):=HP.out
   have HS:=zd (HF o n _ (hEk _ _ hW hbel));clear HP HRec ih h3 hv0 hsl hW hSW hρ HF;generalize zo ρ (d+1) (.mk 4 o n xs)=r at *;generalize ρ o n=r' at *;go_enter Tryz.func180,Tryz.ntmps180;go_wp2_with fail;refine HS.out.mono ?_;rintro e w3 ⟨rfl,hb3⟩;have HB3:=zd hb3;clear hb3;go_wp2_with fail;go_ret2;exact⟨by rw[HR.out]; rfl,HB3.out⟩
def Q0 (v:ByteArray) (ρ:ByteArray->ByteArray->Sol) (o n:ByteArray):Sol:=if (o.toList.isEmpty&&sEq n v)=true then (kx,0) else ρ o n
theorem zdK (w0:World) (v o n:ByteArray) (vB gB mB lB tB fB:Nat) (r:Sol) (W:World) (hb:Below w0.heap.size w0 W) (hv:W.cell? ⟨vB,0,none⟩=some (.string v)) (hg:W.cell? ⟨gB,0,none⟩=some (fnd mB lB tB fB))
  (HF:Calls Tryz.prog 258 #[.string o,.string n,.pointer (some ⟨mB,0,none⟩),.pointer (some ⟨lB,0,none⟩),.pointer (some ⟨tB,0,none⟩),.pointer (some ⟨fB,0,none⟩)] W (xS w0 r)) :
  Calls Tryz.prog 181 #[.string o,.string n,.pointer (some ⟨vB,0,none⟩),.pointer (some ⟨gB,0,none⟩)] W (xS w0 (if (o.toList.isEmpty&&sEq n v)=true then (kx,0) else r)):=by
 have hg':W.cell? ⟨gB,0,none⟩=some (.func (.func 258) #[] #[.pointer (some ⟨mB,0,none⟩),.pointer (some ⟨lB,0,none⟩),.pointer (some ⟨tB,0,none⟩),.pointer (some ⟨fB,0,none⟩)]):=hg;have H:=zd HF;have HB:=zd hb;clear HF hb hg
 cases ho:o.toList.isEmpty with
 |false=>
  have HR:Hid ((if (false&&sEq n v)=true then (kx,(0:Int)) else r)=r):=if_neg (by simp);generalize (if (false&&sEq n v)=true then (kx,(0:Int)) else r)=r' at *;go_enter Tryz.func181,Tryz.ntmps181;go_wp2_with fail;refine H.out.mono ?_;rintro e w3 ⟨rfl,hb3⟩;have HB3:=zd hb3;clear hb3;go_wp2_with fail;go_ret2;exact⟨by rw[HR.out]; rfl,HB3.out⟩
 |true=>
  cases hs:(n.toList==v.toList) with
  |true=>
   have HR:Hid ((if (true&&sEq n v)=true then (kx,(0:Int)) else r)=(kx,0)):=if_pos (by show (true&&(n.toList==v.toList))=true; rw[hs]; rfl);generalize (if (true&&sEq n v)=true then (kx,(0:Int)) else r)=r' at *;go_enter Tryz.func181,Tryz.ntmps181;go_wp2_with fail;go_ret2;exact⟨by rw[HR.out]; rfl,HB.out⟩
  |false=>
   have HR:Hid ((if (true&&sEq n v)=true then (kx,(0:Int)) else r)=r):=if_neg (by show ¬(true&&(n.toList==v.toList))=true; rw[hs]; simp);generalize (if (true&&sEq n v)=true then (kx,(0:Int)) else r)=r' at *;go_enter Tryz.func181,Tryz.ntmps181;go_wp2_with fail;refine H.out.mono ?_;rintro e w3 ⟨rfl,hb3⟩;have HB3:=zd hb3;clear hb3;go_wp2_with fail;go_ret2;exact⟨by rw[HR.out]; rfl,HB3.out⟩
theorem zfa:(Tryz.prog.info? 4).map (fun i=>(i.zero,i.size,i.bytes))=some (some (.bool false),1,1):=by kernel_rfl
theorem zdL (n:Nat) (hb:n<=281474976710656) :
  ∃arr:Array Value,(∀i,i<n->arr[i]? = some (.bool false))/\∀w,(Instr.makeSlice 284 (.int .i64 (n:Int)) (.int .i64 (n:Int))).run Tryz.prog w=.ok (.slice (some ⟨w.heap.size,0,none⟩) n n) (w.alloc (.cells arr 4)):=by
 obtain⟨i,h1,h2,h3,h4⟩:=info_parts zfa;refine⟨madeCells (Value.bool false).cells n,fun j hj=>?_,fun w=>?_⟩
 ·simp[madeCells,Value.cells,hj]
  rw[Nat.mod_one]; rfl
 have hb':(i.bytes:Int) * (n:Int)<=281474976710656:=by
  rw[h4];omega
 have:=run_make (P:=Tryz.prog) w 284 4 i (.bool false) Tryz.underlying284 h1 h2 .i64 .i64 n n (by omega) (Int.le_refl _) hb' (by omega);rw[h3] at this;simpa using this
theorem zdM (m:Mo) (u1 t1 f1 la:Option Addr) (u2 u3 t3 f2 f3 ln lc:Nat) (w:World) (hn:m.types.length<=reachBytes) :
  Calls Tryz.prog 179 #[.agg #[.slice u1 u2 u3,.slice t1 m.types.length t3,.slice f1 f2 f3],.slice la ln lc] w fun e w'=>∃mB lB tB fB aB,e=.returned (fnd mB lB tB fB)/\SEnv w mB lB tB fB aB (.slice u1 u2 u3) (.slice t1 m.types.length t3) (.slice f1 f2 f3) (.slice la ln lc) m.types.length [] w':=by
 have hr:=reachBytes_lt;obtain⟨arr,harr,hmk⟩:=zdL m.types.length (by omega);have HEnv:Hid (SEnv w w.heap.size (w.heap.size+1) (w.heap.size+1+1+1) (w.heap.size+1+1+1+1) (w.heap.size+1+1) (.slice u1 u2 u3) (.slice t1 m.types.length t3) (.slice f1 f2 f3) (.slice la ln lc) m.types.length []
   (((((w.alloc (.cells #[.slice u1 u2 u3,.slice t1 m.types.length t3,.slice f1 f2 f3] 41)).alloc (.cells #[.slice la ln lc] 22)).alloc (.cells arr 4)).alloc (.cells #[.slice (some ⟨w.heap.size+1+1,0,none⟩) m.types.length m.types.length] 284)).alloc (.cells #[fnd w.heap.size (w.heap.size+1) (w.heap.size+1+1+1) (w.heap.size+1+1+1+1)] 235))):=by
  refine⟨((((((Below.refl _ _).alloc (Nat.le_refl _) _).alloc (by simp) _).alloc (by simp; omega) _).alloc (by simp; omega) _).alloc (by simp; omega) _),by simp[go_sem],by simp[go_sem],by simp[go_sem],by simp[go_sem],by simp[go_sem],by simp[go_sem],fun i hi=>⟨?_,by simp[go_sem]⟩,by omega,by omega,by omega,by omega,by omega⟩;have:=harr i hi;simp[go_sem,this]
 clear harr;go_enter Tryz.func179,Tryz.ntmps179;go_wp2_with fail;go_ret;exact⟨_,_,_,_,_,rfl,HEnv.out⟩
theorem YW:∀n,jg [] n=n
 |0=>rfl
 |n+1=>by rw[jg,YW n]; simp
theorem YX (S:Nat->Prop) (m:Mo) (l:List Im) (v:ByteArray) (t:Ty) (vm vl vt:Value) (w:World) (hS:∀b,S b->b<w.heap.size) (hm:qT S w m vm) (hl:ze S (yd S w) 4 l vl) (hz:∀i∈l,zH i.face) (hty:∀f∈m.types,zl f.is 1=0) (ht:zl t 1=0) (hvt:vi S w t vt) (hn:m.types.length<=reachBytes) :
  Calls Tryz.prog 110 #[vm,vl,.string v,vt] w (xS w (zo (Q0 v (qt m l m.types.length [])) 10 t)):=by
 obtain⟨vu,vty,vf,rfl,hu,hts,hf⟩:=id hm;obtain⟨u1,u2,u3,rfl⟩:=hu.slice;obtain⟨t1,t3,rfl⟩:=hts.is;obtain⟨f1,f2,f3,rfl⟩:=hf.slice;obtain⟨la,ln,lc,rfl⟩:=hl.slice;obtain⟨k,fo,na,va,rfl,hcs⟩:=id hvt;obtain⟨a,c,cap,rfl⟩:∃a c cap,va=.slice a c cap:=by
  obtain⟨_,_,_,_,hs⟩:=hcs;exact ze.slice hs
 obtain⟨w2,hwe,hs2,p0,q0,q1,q2,q3,hbel⟩:∃w2,((w.alloc (.cells #[.slice u1 u2 u3,.slice t1 m.types.length t3,.slice f1 f2 f3] 41)).alloc (.cells #[.string v] 9)).alloc (.cells #[.int .i64 k,.string fo,.string na,.slice a c cap] 67)=w2/\w2.heap.size=w.heap.size+3/\
   w2.cell? ⟨w.heap.size+1,0,none⟩=some (.string v)/\w2.cell? ⟨w.heap.size+2,0,none⟩=some (.int .i64 k)/\w2.cell? ⟨w.heap.size+2,1,none⟩=some (.string fo)/\w2.cell? ⟨w.heap.size+2,2,none⟩=some (.string na)/\w2.cell? ⟨w.heap.size+2,3,none⟩=some (.slice a c cap)/\Below w.heap.size w w2:=
  ⟨_,rfl,by simp,by simp[go_sem],by simp[go_sem],by simp[go_sem],by simp[go_sem],by simp[go_sem],(((Below.refl _ _).alloc (Nat.le_refl _) _).alloc (by simp) _).alloc (by simp; omega) _⟩
 have hS2:∀b,S b->b<w2.heap.size:=fun b hb=>Nat.lt_of_lt_of_le (hS b hb) hbel.size
 have hk2:=Keeps.below hbel hS;have hm2:=hm.keep hk2;have hl2:=qd hk2 hl;have HAll:Hid (∀(mB lB tB fB aB gB:Nat) (W:World),SEnv w2 mB lB tB fB aB (.slice u1 u2 u3) (.slice t1 m.types.length t3) (.slice f1 f2 f3) (.slice la ln lc) m.types.length [] W->W.cell? ⟨w.heap.size+1,0,none⟩=some (.string v)->W.cell? ⟨gB,0,none⟩=some (fnd mB lB tB fB)->Calls Tryz.prog 180 #[.agg #[.int .i64 k,.string fo,.string na,.slice a c cap],.func (.func 181) #[] #[.pointer (some ⟨w.heap.size+1,0,none⟩),.pointer (some ⟨gB,0,none⟩)]] W (xS w2 (zo (Q0 v (qt m l m.types.length [])) 10 t))):=fun mB lB tB fB aB gB W henv hv hg=>by
  refine zhB w2 S hS2 (Q0 v (qt m l m.types.length [])) (fun o n=>?_) (fun W=>SEnv w2 mB lB tB fB aB (.slice u1 u2 u3) (.slice t1 m.types.length t3) (.slice f1 f2 f3) (.slice la ln lc) m.types.length [] W/\W.cell? ⟨w.heap.size+1,0,none⟩=some (.string v)/\W.cell? ⟨gB,0,none⟩=some (fnd mB lB tB fB)) (fun _ h=>h.1.below) (fun W W' h hb=>⟨h.1.keep hb,(hb.cell (World.block_lt_of_cell? _ _ h.2.1)).trans h.2.1,(hb.cell (World.block_lt_of_cell? _ _ h.2.2)).trans h.2.2⟩) (w.heap.size+1) gB
   (fun o n W hW=>zdK w2 v o n (w.heap.size+1) gB mB lB tB fB _ W hW.1.below hW.2.1 hW.2.2 (zgC w2 S hS2 m l u1 t1 f1 la u2 u3 t3 f2 f3 ln lc hm2 hl2 hz hty mB lB tB fB aB m.types.length [] (by rw[YW]; exact Nat.le_refl _) o n W hW.1)) 10 t 1 _ W ht (by omega) ⟨henv,hv,hg⟩ (hvt.keep ⟨fun b hb=>(henv.below.block b (hS2 b hb)).trans (hbel.block b (hS b hb)),fun _ h=>h⟩)
  unfold Q0
  split
  ·show (1:Nat)<=_
   unfold maxLen; omega
  ·exact Yc hz _ _ o n
 have HF:=zd (zdM m u1 t1 f1 la u2 u3 t3 f2 f3 ln lc w2 hn);have HWe:=zd hwe;have HBel:=zd hbel;clear hwe hbel hm hl hu hts hf hvt hcs hm2 hl2 hk2 hz hty ht hn hS2;generalize zo (Q0 v (qt m l m.types.length [])) 10 t=r at *;go_enter Tryz.func110,Tryz.ntmps110;go_wp2_with fail;rw[HWe.out];refine HF.out.mono ?_;rintro e w3 ⟨mB,lB,tB,fB,aB,rfl,henv⟩;have hb3:=henv.below;have hsz3:=hb3.size;have hfn:fnd mB lB tB fB=.func (.func 258) #[] #[.pointer (some ⟨mB,0,none⟩),.pointer (some ⟨lB,0,none⟩),.pointer (some ⟨tB,0,none⟩),.pointer (some ⟨fB,0,none⟩)]:=rfl;have hb4:Below w3.heap.size w3 (w3.alloc (.cells #[fnd mB lB tB fB] 235)):=(Below.refl _ _).alloc (Nat.le_refl _) _;have hb5:=hb3.trans (hb4.mono hb3.size);have r0:=(hb5.cell (p:=⟨w.heap.size+2,0,none⟩) (by show w.heap.size+2<_; omega)).trans q0;have r1:=(hb5.cell (p:=⟨w.heap.size+2,1,none⟩) (by show w.heap.size+2<_; omega)).trans q1;have r2:=(hb5.cell (p:=⟨w.heap.size+2,2,none⟩) (by show w.heap.size+2<_; omega)).trans q2;have r3:=(hb5.cell (p:=⟨w.heap.size+2,3,none⟩) (by show w.heap.size+2<_; omega)).trans q3;have HC:=zd (HAll.out mB lB tB fB aB w3.heap.size _ (henv.keep hb4) ((hb5.cell (p:=⟨w.heap.size+1,0,none⟩) (by show w.heap.size+1<_; omega)).trans p0) (by simp[go_sem]));clear henv hb3 hb4 hb5 q0 q1 q2 q3 p0 HAll HF;rw[hfn] at HC r0 r1 r2 r3 ⊢;clear hfn;go_wp2_with fail;refine HC.out.mono ?_;rintro e w6 ⟨rfl,hb6⟩;have HB6:=zd (HBel.out.trans (hb6.mono HBel.out.size));clear hb6;go_wp2_with fail;go_ret2;exact⟨rfl,HB6.out⟩
theorem VF {ρ ρ':ByteArray->ByteArray->Sol} (h:∀o n,zf n=true->ρ o n=ρ' o n):∀(d:Nat) (t:Ty) (dd:Nat),zl t dd=0->zo ρ d t=zo ρ' d t
 |0,_,_,_=>rfl
 |d+1,.mk k o n xs,dd,ht=>by
  obtain⟨_,⟨hk1,hk4⟩,h3,h4⟩:=QZ ht;unfold zo
  by_cases e1:k=1
  ·rw[if_pos e1,if_pos e1]
  ·rw[if_neg e1,if_neg e1]
   by_cases e2:k=2
   ·rw[if_pos e2,if_pos e2]
   ·rw[if_neg e2,if_neg e2]
    by_cases e3:k=3
    ·rw[if_pos e3,if_pos e3]
     obtain⟨t,rfl,ht1⟩:=h3 e3;show yg _=yg _;rw[VF h d t (dd+1) ht1]
    ·rw[if_neg e3,if_neg e3]
     exact h o n (h4 (by omega))
theorem zdN {m:Mo} {l:List Im} {u:Nat} {v:ByteArray} {under:List ByteArray} {o n:ByteArray} (h:(!v.toList.isEmpty&&sEq n v)=false):qD m l u v under o n=qD m l u zr under o n:=by
 have h0:¬(!zr.toList.isEmpty&&sEq n zr)=true:=by simp[zr]
 cases u with
 |zero=>
  unfold qD;rw[if_neg (c:=(!v.toList.isEmpty&&sEq n v)=true) (by rw[h]; simp),if_neg h0]
 |succ u=>
  unfold qD;rw[if_neg (c:=(!v.toList.isEmpty&&sEq n v)=true) (by rw[h]; simp),if_neg h0]
theorem zfb {m:Mo} {l:List Im} {u:Nat} {v:ByteArray} {under:List ByteArray} {o n:ByteArray} (ho:o.toList.isEmpty=true) (h:(!v.toList.isEmpty&&sEq n v)=true):qD m l u v under o n=(kx,0):=by
 cases u with
 |zero=>unfold qD; rw[if_pos ho,if_pos h]
 |succ u=>unfold qD; rw[if_pos ho,if_pos h]
theorem Zd {m:Mo} {l:List Im} {u:Nat} {v:ByteArray} {under:List ByteArray} {o n:ByteArray} (ho:o.toList.isEmpty=false):qD m l u v under o n=Xt m.uses l o n:=by
 cases u <;> (unfold qD; rw[if_neg (by rw[ho]; simp)])
theorem zgD {n v:ByteArray} (h:zf n=true) (hs:sEq n v=true):v.toList.isEmpty=false:=by
 rw[<- YV hs,Lib.toList_data];have:=X8 h
 cases hn:n.data.toList with
 |nil=>
  have:n.size=0:=by
   show n.data.size=0;rw[<- Array.length_toList,hn]; rfl
  omega
 |cons _ _=>rfl
theorem zhC {m:Mo} {l:List Im} {u:Nat} {v:ByteArray} {o n:ByteArray} (hn:zf n=true):Q0 v (qt m l u []) o n=qD m l u v [] o n:=by
 unfold Q0
 cases ho:o.toList.isEmpty with
 |false=>
  rw[if_neg (by simp),zbv ho,Zd ho]
 |true=>
  cases hs:sEq n v with
  |true=>
   rw[if_pos (by rfl),zfb ho (by rw[zgD hn hs,hs]; rfl)]
  |false=>
   rw[if_neg (by simp),zdN (by rw[hs]; simp),zbt m l u [] [] (Z5.start m)]
theorem JD {m:Mo} {l:List Im} {u:Nat} {v:ByteArray} {t:Ty} (ht:zl t 1=0):zo (Q0 v (qt m l u [])) 10 t=zo (qD m l u v []) 10 t:=
 VF (fun _ _ hn=>zhC hn) 10 t 1 ht
def JE:Nat->Sol->Sol
 |0,r=>r
 |k+1,r=>yg (JE k r)
theorem zfc {r:Sol} (h:r.2≠0):yg r=(zr,r.2):=if_neg h
theorem Z6:∀k,JE k (zr,2)=(zr,2)
 |0=>rfl
 |k+1=>by rw[JE,Z6 k]; exact zfc (by decide)
theorem VG:∀(d:Nat) (t:Ty),(∃r,∀ρ,zo ρ d t=r)\/∃k o n,∀ρ,zo ρ d t=JE k (ρ o n)
 |0,_=>Or.inl ⟨_,fun _=>rfl⟩
 |d+1,.mk k o n xs=>by
  by_cases h1:k=1
  ·exact Or.inl ⟨_,fun _=>by unfold zo; rw[if_pos h1]⟩
  by_cases h2:k=2
  ·exact Or.inl ⟨_,fun _=>by unfold zo; rw[if_neg h1,if_pos h2]⟩
  by_cases h3:k=3
  ·cases xs with
   |nil=>exact Or.inl ⟨_,fun _=>by unfold zo; rw[if_neg h1,if_neg h2,if_pos h3]⟩
   |cons t r=>
    have e:∀ρ,zo ρ (d+1) (.mk k o n (t::r))=yg (zo ρ d t):=fun ρ=>by
     conv=>lhs; unfold zo
     rw[if_neg h1,if_neg h2,if_pos h3]
    rcases VG d t with ⟨q,h⟩|⟨j,o',n',h⟩
    ·exact Or.inl ⟨yg q,fun ρ=>by rw[e,h]⟩
    ·exact Or.inr ⟨j+1,o',n',fun ρ=>by rw[e,h]; rfl⟩
  ·exact Or.inr ⟨0,o,n,fun _=>by unfold zo; rw[if_neg h1,if_neg h2,if_neg h3]; rfl⟩
theorem ZC {n:ByteArray}:¬(!zr.toList.isEmpty&&sEq n zr)=true:=by simp[zr]
theorem Zj {m:Mo} {l:List Im} {u:Nat} {under:List ByteArray} {o n:ByteArray} (ho:o.toList.isEmpty=true) (ha:¬zq m n<m.types.length):qD m l u zr under o n=(zr,5):=by
 cases u with
 |zero=>unfold qD; rw[if_pos ho,if_neg ZC,if_neg ha]
 |succ u=>unfold qD; rw[if_pos ho,if_neg ZC,List.getElem?_eq_none (by omega)]
theorem jh {m:Mo} {l:List Im} {u:Nat} {under:List ByteArray} {o n:ByteArray} (ho:o.toList.isEmpty=true) (ha:zq m n<m.types.length) (hh:qu under n=true):qD m l u zr under o n=(zr,2):=by
 cases u with
 |zero=>unfold qD; rw[if_pos ho,if_neg ZC,if_pos ha]
 |succ u=>unfold qD; rw[if_pos ho,if_neg ZC,List.getElem?_eq_getElem ha]; simp only; rw[if_pos hh]
theorem ZU {m:Mo} {l:List Im} {u:Nat} {under:List ByteArray} {o n:ByteArray} (ho:o.toList.isEmpty=true) (ha:zq m n<m.types.length) (hh:qu under n=false):qD m l (u+1) zr under o n=zo (qD m l u zr (under++[n])) 10 m.types[zq m n].is:=by
 conv=>lhs; unfold qD
 rw[if_pos ho,if_neg ZC,List.getElem?_eq_getElem ha]; simp only; rw[if_neg (by rw[hh]; simp)]
theorem VH {met met':List Nat} (h:∀i,met.contains i=met'.contains i):∀n,jg met n=jg met' n
 |0=>rfl
 |n+1=>by unfold jg; rw[VH h n,h n]
theorem YY {U:List ByteArray} {a n:ByteArray} (h:qu U n=true):qu (U++[a]) n=true:=j7.2 (List.mem_append_left _ (j7.1 h))
theorem KY (U:List ByteArray) (a:ByteArray):qu (U++[a]) a=true:=j7.2 (by simp)
theorem Qw (a b:Nat) (met:List Nat) (i:Nat):(a::b::met).contains i=(b::a::met).contains i:=by
 simp only[List.contains_cons]
 cases (i==a) <;> cases (i==b) <;> rfl
theorem zgE {m:Mo} {l:List Im} {a n1 o1:ByteArray} {j:Nat} (ha:zq m a<m.types.length) (ho1:o1.toList.isEmpty=true) (h1:zq m n1<m.types.length)
  (ht:∀ρ,zo ρ 10 m.types[zq m a].is=JE j (ρ o1 n1)) :
  ∀(u' u:Nat) (U W:List ByteArray) (met:List Nat),Z5 m U met->Z5 m W (zq m a::met)->met.contains (zq m a)=false->qu U n1=true->jg met m.types.length<=u->jg (zq m a::met) m.types.length<=u'->
   ∀o n,qD m l u zr U o n=qD m l u' zr W o n:=by
 intro u'
 induction u' with
 |zero=>
  intro u U W met hU hW hc hn hu hu' o n
  cases ho:o.toList.isEmpty with
  |false=>rw[Zd ho,Zd ho]
  |true=>
   by_cases hn':zq m n<m.types.length
   ·have hm:=Yb (met:=zq m a::met) (n:=m.types.length) (by omega) _ hn'
    rw[jh (u:=0) (under:=W) ho hn' (by rw[<- hW n hn']; exact hm)]
    by_cases hu2:qu U n=true
    ·exact jh ho hn' hu2
    ·have hu3:qu U n=false:=by simpa using hu2
     have he:zq m n=zq m a:=by
      rw[<- hU n hn'] at hu3;rw[List.contains_cons,hu3] at hm;simpa using hm
     have hna:n=a:=Vq hn' he;subst hna;have:=j8 hc ha;obtain⟨v,rfl⟩:∃v,u=v+1:=⟨u - 1,by omega⟩
     rw[ZU ho hn' hu3,ht,jh ho1 h1 (YY hn),Z6]
   ·rw[Zj ho hn',Zj ho hn']
 |succ u' ih=>
  intro u U W met hU hW hc hn hu hu' o n
  cases ho:o.toList.isEmpty with
  |false=>rw[Zd ho,Zd ho]
  |true=>
   by_cases hn':zq m n<m.types.length
   ·have hlt:=j8 hc ha
    obtain⟨v,rfl⟩:∃v,u=v+1:=⟨u - 1,by omega⟩
    by_cases hu2:qu U n=true
    ·have hm:(zq m a::met).contains (zq m n)=true:=by rw[List.contains_cons,hU n hn',hu2]; simp
     rw[jh ho hn' hu2,jh ho hn' (by rw[<- hW n hn']; exact hm)]
    ·have hu3:qu U n=false:=by simpa using hu2
     by_cases he:zq m n=zq m a
     ·have hna:n=a:=Vq hn' he
      subst hna;rw[jh (u:=u'+1) ho hn' (by rw[<- hW n hn']; simp),ZU ho hn' hu3,ht,jh ho1 h1 (YY hn),Z6]
     ·have hmn:met.contains (zq m n)=false:=by rw[hU n hn']; exact hu3
      have hW3:(zq m a::met).contains (zq m n)=false:=by rw[List.contains_cons,hmn]; simpa using he
      rw[ZU ho hn' hu3,ZU ho hn' (by rw[<- hW n hn']; exact hW3)];have hl2:=j8 hmn hn';have hl3:=j8 hW3 hn';have hsw:=VH (Qw (zq m n) (zq m a) met) m.types.length;have hc2:(zq m n::met).contains (zq m a)=false:=by rw[List.contains_cons,hc]; simpa using fun e=>he e.symm
      refine QY (ih v (U++[n]) (W++[n]) (zq m n::met) (hU.next hn') (fun x hx=>?_) hc2 (YY hn) (by omega) (by omega)) 10 _;rw[<- (hW.next hn') x hx];exact Qw _ _ _ _
   ·rw[Zj ho hn',Zj ho hn']
theorem zdO {m:Mo} {l:List Im} {a:ByteArray} (ha:zq m a<m.types.length):zo (qD m l m.types.length zr []) 10 m.types[zq m a].is=qD m l m.types.length zr [] zr a:=by
 obtain⟨v,hv⟩:∃v,m.types.length=v+1:=⟨m.types.length - 1,by omega⟩
 have h0:qu [] a=false:=by simp[qu,zj]
 have hn0:∀n,qu [] n=false:=fun n=>by simp[qu,zj]
 have hR:qD m l m.types.length zr [] zr a=zo (qD m l v zr [a]) 10 m.types[zq m a].is:=by
  rw[hv]; exact ZU (by simp[zr]) ha h0
 rw[hR]
 rcases VG 10 m.types[zq m a].is with ⟨q,h⟩|⟨j,o1,n1,h⟩
 ·rw[h,h]
 ·rw[h,h]
  congr 1
  cases ho:o1.toList.isEmpty with
  |false=>rw[Zd ho,Zd ho]
  |true=>
   by_cases hn:zq m n1<m.types.length
   ·rw[show qD m l m.types.length zr [] o1 n1=qD m l (v+1) zr [] o1 n1 by rw[hv],ZU ho hn (hn0 n1)]
    by_cases he:zq m n1=zq m a
    ·have hna:n1=a:=Vq hn he
     subst hna;have hl:qu [n1] n1=true:=KY [] n1;rw[List.nil_append,h,jh ho hn hl,Z6]
    ·have hM:=Z5.start m
     have c1:([]:List Nat).contains (zq m n1)=false:=rfl;have c2:[zq m n1].contains (zq m a)=false:=by simpa using fun e=>he e.symm
     have l1:=j8 c1 hn;have l2:=j8 c2 ha;rw[YW] at l1;obtain⟨v2,rfl⟩:∃v2,v=v2+1:=⟨v - 1,by omega⟩
     have hh:qu [a] n1=false:=by
      rw[Bool.eq_false_iff,ne_eq,j7];simp;rintro rfl; exact he rfl
     rw[ZU ho hn hh];refine QY (zgE ha ho hn h v2 (v2+1) [n1] ([a]++[n1]) [zq m n1] (hM.next hn) (fun x hx=>?_) c2 (KY [] n1) (by omega) (by omega)) 10 _;have:=((hM.next ha).next hn) x hx;rw[List.nil_append] at this;rw[<- this];exact Qw _ _ _ _
   ·rw[Zj ho hn,Zj ho hn]
end Go.Proofs.YtedpiamfpbdhoaaGreatDoor
namespace Go.Proofs.YtedpiamfpbdhoaaGreatDoor
open Go.RowKit
open Go.Shelf (Ren)
theorem ky:∀{a b:List UInt8},Op.bytesLess a b=true->Op.bytesLess b a=false
 |[],[],h=>by simp[Op.bytesLess] at h
 |[],_::_,_=>by simp[Op.bytesLess]
 |_::_,[],h=>by simp[Op.bytesLess] at h
 |x::xs,y::ys,h=>by
  simp only[Op.bytesLess,Bool.or_eq_true,decide_eq_true_eq,Bool.and_eq_true,beq_iff_eq,Bool.or_eq_false_iff,decide_eq_false_iff_not,Bool.and_eq_false_iff,beq_eq_false_iff_ne] at *
  rcases h with h|⟨rfl,h⟩
  ·have:=UInt8.lt_iff_toNat_lt.1 h
   refine⟨fun h'=>by have:=UInt8.lt_iff_toNat_lt.1 h'; omega,Or.inl fun e=>?_⟩;subst e; omega
  ·refine⟨fun h'=>by have:=UInt8.lt_iff_toNat_lt.1 h'; omega,Or.inr (ky h)⟩
theorem Z7 (a:List UInt8):Op.bytesLess a a=false:=by
 cases h:Op.bytesLess a a with
 |false=>rfl
 |true=>rw[ky h] at h; cases h
theorem zhD {a b c:List UInt8} (h1:Op.bytesLess a b=true) (h2:Op.bytesLess b c=true):Op.bytesLess a c=true:=by
 cases h:Op.bytesLess a c with
 |true=>rfl
 |false=>
  have:=ku h (ky h2);rw[h1] at this; cases this
theorem YZ:∀(a b:List UInt8),decide (Lib.compareBytes a b<0)=Op.bytesLess a b
 |[],[]=>by simp[Lib.compareBytes,Op.bytesLess]
 |[],_::_=>by simp[Lib.compareBytes,Op.bytesLess]
 |_::_,[]=>by simp[Lib.compareBytes,Op.bytesLess]
 |x::xs,y::ys=>by
  rw[Lib.compareBytes,Op.bytesLess]
  by_cases h1:x<y
  ·simp[h1]
  ·by_cases h2:y<x
   ·have hne:¬x=y:=fun e=>by subst e; exact h1 h2
    simp[h1,h2,hne]
   ·have e:x=y:=UInt8.toNat_inj.1 (by
     have a1:=mt UInt8.lt_iff_toNat_lt.2 h1;have a2:=mt UInt8.lt_iff_toNat_lt.2 h2;omega)
    subst e;simp[h1,YZ xs ys]
section
variable {α:Type} (name:α->ByteArray)
def Q1 (x:α):List α->List α
 |[]=>[x]
 |y::r=>if gtB (name y) (name x)=true then x::y::r else y::Q1 x r
def xN (l:List α):Prop:=l.Pairwise fun a b=>gtB (name b) (name a)=true
theorem Qo (x:α):∀l,(Q1 name x l).Perm (x::l)
 |[]=>List.Perm.refl _
 |y::r=>by
  rw[Q1]
  split
  ·exact List.Perm.refl _
  ·exact ((Qo x r).cons y).trans (List.Perm.swap x y r)
theorem zij {a b:ByteArray} (h:¬gtB a b=true) (hn:sEq a b=false):gtB b a=true:=by
 unfold gtB sEq at *;have hn':(b.toList==a.toList)=false:=by
  rw[beq_eq_false_iff_ne] at *;exact fun e=>hn e.symm
 rw[hn] at h;simp only[Bool.not_false,Bool.and_true,Bool.not_eq_true',Bool.not_eq_false] at h;rw[hn',ky h]; rfl
theorem QF {x:α}:∀{l:List α},xN name l->(∀y∈l,sEq (name y) (name x)=false)->xN name (Q1 name x l)
 |[],_,_=>List.pairwise_singleton _ _
 |y::r,h,hn=>by
  rw[Q1]
  by_cases hg:gtB (name y) (name x)=true
  ·rw[if_pos hg]
   refine List.Pairwise.cons (fun z hz=>?_) h
   rcases List.mem_cons.1 hz with rfl|hz
   ·exact hg
   ·exact Jg (List.rel_of_pairwise_cons h hz) hg
  ·rw[if_neg hg]
   have hyx:=zij hg (hn y (List.mem_cons_self ..));refine List.Pairwise.cons (fun z hz=>?_) (QF h.tail (fun z hz=>hn z (List.mem_cons_of_mem _ hz)))
   rcases List.mem_cons.1 ((Qo name x r).subset hz) with rfl|hz
   ·exact hyx
   ·exact List.rel_of_pairwise_cons h hz
theorem Y0 {l1 l2:List α} (h1:xN name l1) (h2:xN name l2) (hp:l1.Perm l2):l1=l2:=
 List.Perm.eq_of_pairwise (le:=fun a b=>gtB (name b) (name a)=true) (fun a b _ _ h h'=>by
  have:=zhc (Jg h h');rw[kY] at this; cases this) h1 h2 hp
def Z8 (l:List α):Prop:=l.Pairwise fun a b=>sEq (name a) (name b)=false
def kJ (x y:α):Int:=Lib.compareBytes (name x).data.toList (name y).data.toList
theorem Xh (x y:α):ltOf (kJ name) x y=Op.bytesLess (name x).toList (name y).toList:=by
 unfold ltOf kJ;rw[YZ,Lib.toList_data,Lib.toList_data]
theorem zbw:Sort.SWO (ltOf (kJ name)) where
 irrefl x:=by rw[Xh]; exact Z7 _
 trans x y z h1 h2:=by rw[Xh] at *; exact zhD h1 h2
 ntrans x y z h1 h2:=by rw[Xh] at *; exact ku h1 h2
theorem Y1 [Inhabited α] {d d':Array α} (hp:Sort.PermIn 0 d.size d d') (hs:Sort.SortedIn (ltOf (kJ name)) 0 d.size d') (ha:Z8 name d.toList):d'.toList.Perm d.toList/\xN name d'.toList:=by
 obtain⟨hsz,_,hperm⟩:=hp;have e1:d'.extract 0 d.size=d':=by rw[<- hsz]; simp
 have e2:d.extract 0 d.size=d:=by simp
 rw[e1,e2] at hperm;refine⟨hperm,?_⟩;have ha':Z8 name d'.toList:=(hperm.pairwise_iff (by
  intro x y h;unfold sEq at *;rw[beq_eq_false_iff_ne] at *;exact fun e=>h e.symm)).2 ha
 unfold xN;unfold Z8 at ha';rw[List.pairwise_iff_getElem] at *;intro i j hi hj hij;have h1:=hs i j (Nat.zero_le _) hij (by rw[<- hsz]; simpa using hj);rw[Xh] at h1;have h2:=ha' i j hi hj hij;have g1:d'[i]! = d'.toList[i]:=by simp at hi; simp[getElem!_pos,hi]
 have g2:d'[j]! = d'.toList[j]:=by simp at hj; simp[getElem!_pos,hj]
 rw[g1,g2] at h1;unfold gtB;rw[h1];unfold sEq at h2;rw[beq_eq_false_iff_ne] at h2;have h3:((name d'.toList[j]).toList==(name d'.toList[i]).toList)=false:=beq_eq_false_iff_ne.2 fun e=>h2 e.symm
 rw[h3]; rfl
end
end Go.Proofs.YtedpiamfpbdhoaaGreatDoor
namespace Go.Proofs.YtedpiamfpbdhoaaGreatDoor
open Go.RowKit
theorem zcT:∀(x y:List UInt8),Op.bytesLess x y=decide (x<y)
 |[],[]=>by simp[Op.bytesLess]
 |_::_,[]=>by simp[Op.bytesLess]
 |[],_::_=>by simp[Op.bytesLess]
 |a::x,b::y=>by
  rw[Op.bytesLess,zcT x y];simp only[List.cons_lt_cons_iff]
  by_cases h1:a<b <;> by_cases h2:a=b <;> by_cases h3:x<y <;> simp[h1,h2,h3]
theorem Vr (x y:List UInt8):decide (x<=y)=!Op.bytesLess y x:=by
 rw[zcT]
 by_cases h:y<x
 ·have:¬x<=y:=fun h'=>List.not_lt.2 h' h
  simp[h,this]
 ·have:x<=y:=List.not_lt.1 h
  simp[h,this]
def jX (u:List (List UInt8)):List (List UInt8):=u.mergeSort fun x y=>decide (x<=y)
theorem JF (u:List (List UInt8)):(jX u).Perm u:=List.mergeSort_perm _ _
theorem KZ (u:List (List UInt8)):(jX u).length=u.length:=(JF u).length_eq
theorem zcg (u:List (List UInt8)):(jX u).Pairwise fun a b=>Op.bytesLess b a=false:=by
 have h:=List.pairwise_mergeSort (le:=fun x y:List UInt8=>decide (x<=y)) (fun a b c h1 h2=>by
  rw[Vr,Bool.not_eq_true'] at *;exact ku h2 h1) (fun a b=>by
  rw[Vr,Vr]
  cases hb:Op.bytesLess b a with
  |false=>rfl
  |true=>rw[ky hb]; rfl) u
 refine h.imp fun {a b} hab=>?_
 rw[Vr,Bool.not_eq_true'] at hab;exact hab
theorem zcU {d:Array (List UInt8)} (hs:∀i j,i<=j->j<d.size->Op.bytesLess d[j]! d[i]! = false):∀m,m<=d.size->
  (Lib.compactUpTo d m).Pairwise (fun a b=>Op.bytesLess a b=true)/\(∀x∈Lib.compactUpTo d m,Op.bytesLess d[m - 1]! x=false)/\∀x,x∈Lib.compactUpTo d m↔∃j,j<m/\d[j]! = x
 |0,_=>by simp[Lib.compactUpTo]
 |m+1,hm=>by
  obtain⟨h1,h2,h3⟩:=zcU hs m (by omega);rw[Lib.compactUpTo_succ]
  by_cases hk:Lib.keeps d m=true
  ·rw[if_pos hk]
   have hk':m=0\/d[m]!≠d[m - 1]!:=by simpa [Lib.keeps] using hk
   refine⟨List.pairwise_append.2 ⟨h1,List.pairwise_singleton _ _,fun x hx y hy=>?_⟩,fun x hx=>?_,fun x=>?_⟩
   ·rw[List.mem_singleton.1 hy]
    have hx3:=(h3 x).1 hx;have hx2:=h2 x hx
    rcases hk' with rfl|hne
    ·obtain⟨j,hj,_⟩:=hx3; omega
    ·have hle:=hs (m - 1) m (by omega) (by omega)
     cases hl:Op.bytesLess x d[m]! with
     |true=>rfl
     |false=>exact absurd (Kg hle (ku hx2 hl)) hne
   ·rw[Nat.add_sub_cancel]
    rcases List.mem_append.1 hx with h|h
    ·obtain⟨j,hj,rfl⟩:=(h3 x).1 h
     exact hs j m (by omega) (by omega)
    ·rw[List.mem_singleton.1 h]; exact Z7 _
   ·rw[List.mem_append,h3,List.mem_singleton]
    constructor
    ·rintro (⟨j,hj,rfl⟩|rfl)
     ·exact⟨j,by omega,rfl⟩
     ·exact⟨m,by omega,rfl⟩
    ·rintro ⟨j,hj,rfl⟩
     rcases Nat.lt_or_ge j m with h|h
     ·exact Or.inl ⟨j,h,rfl⟩
     ·have:j=m:=by omega
      subst this;exact Or.inr rfl
  ·rw[if_neg hk,List.append_nil]
   have hk':¬(m=0\/d[m]!≠d[m - 1]!):=by simpa [Lib.keeps] using hk
   have hm0:m≠0:=fun e=>hk' (Or.inl e)
   have he:d[m]! = d[m - 1]!:=Decidable.byContradiction fun e=>hk' (Or.inr e)
   refine⟨h1,fun x hx=>?_,fun x=>?_⟩
   ·rw[Nat.add_sub_cancel,he]; exact h2 x hx
   ·rw[h3]
    constructor
    ·rintro ⟨j,hj,rfl⟩
     exact⟨j,by omega,rfl⟩
    ·rintro ⟨j,hj,rfl⟩
     rcases Nat.lt_or_ge j m with h|h
     ·exact⟨j,h,rfl⟩
     ·have:j=m:=by omega
      subst this;exact⟨j - 1,by omega,he.symm⟩
def JG (u:List ByteArray):List (List UInt8):=Lib.compact (jX (u.map fun s=>s.data.toList))
theorem zgF (u:List ByteArray):(JG u).Pairwise (fun a b=>Op.bytesLess a b=true)/\∀x,x∈JG u↔∃s∈u,s.data.toList=x:=by
 unfold JG Lib.compact;generalize hl:jX (u.map fun s=>s.data.toList)=l;have hr:l.Pairwise fun a b=>Op.bytesLess b a=false:=by rw[<- hl]; exact zcg _
 have hp:l.Perm (u.map fun s=>s.data.toList):=by rw[<- hl]; exact JF _
 have hs:∀i j,i<=j->j<l.toArray.size->Op.bytesLess l.toArray[j]! l.toArray[i]! = false:=fun i j hij hj=>by
  have hj':j<l.length:=by simpa using hj
  have e1:l.toArray[j]! = l[j]:=by simp[hj']
  have e2:l.toArray[i]! = l[i]:=by simp[show i<l.length by omega]
  rw[e1,e2]
  rcases Nat.lt_or_ge i j with h|h
  ·exact List.pairwise_iff_getElem.1 hr i j (by omega) hj' h
  ·have:i=j:=by omega
   subst this;exact Z7 _
 obtain⟨h1,_,h3⟩:=zcU hs l.length (by simp);refine⟨h1,fun x=>(h3 x).trans ?_⟩
 constructor
 ·rintro ⟨j,hj,rfl⟩
  have e1:l.toArray[j]! = l[j]:=by simp[hj]
  rw[e1];have:=hp.subset (List.getElem_mem hj);rw[List.mem_map] at this;exact this
 ·rintro ⟨s,hs,rfl⟩
  have:s.data.toList∈l:=hp.symm.subset (List.mem_map.2 ⟨s,hs,rfl⟩);obtain⟨j,hj,e⟩:=List.getElem_of_mem this;exact⟨j,hj,by simp[hj,e]⟩
def toB (x:List UInt8):ByteArray:=⟨x.toArray⟩
theorem zbx (s:ByteArray):toB s.data.toList=s:=by simp[toB]
theorem Jh (x:List UInt8):(toB x).data.toList=x:=by simp[toB]
theorem Y2 (x:ByteArray):∀l,ZS x l=Q1 (fun s:ByteArray=>s) x l
 |[]=>rfl
 |y::r=>by rw[ZS,Q1,Y2 x r]
theorem ZD (u:List ByteArray):∀k,xN (fun s:ByteArray=>s) (yv u k)
 |0=>List.Pairwise.nil
 |k+1=>by
  rw[yv,YP]
  by_cases h:qu (yv u k) (kM u k)=true
  ·rw[if_pos h]; exact ZD u k
  ·rw[if_neg h,Y2]
   refine QF (fun s:ByteArray=>s) (ZD u k) fun y hy=>?_
   cases hs:sEq y (kM u k) with
   |false=>rfl
   |true=>exact absurd (j7.2 (by rw[<- YV hs]; exact hy)) h
theorem Yd (u:List ByteArray):∀k,k<=u.length->∀x,x∈yv u k↔∃(j:Nat) (h:j<u.length),j<k/\u[j]=x
 |0,_,x=>by simp[yv]
 |k+1,hk,x=>by
  have ih:=Yd u k (by omega);have he:=ze4 (u:=u) (k:=k) (by omega);have hmem:x∈yv u (k+1)↔x=kM u k\/x∈yv u k:=by
   rw[yv,YP]
   by_cases h:qu (yv u k) (kM u k)=true
   ·rw[if_pos h]
    exact⟨Or.inr,fun h'=>h'.elim (fun e=>by rw[e]; exact j7.1 h) id⟩
   ·rw[if_neg h,Y2]
    rw[(Qo (fun s:ByteArray=>s) (kM u k) (yv u k)).mem_iff,List.mem_cons]
  rw[hmem,ih,he]
  constructor
  ·rintro (rfl|⟨j,h,hj,rfl⟩)
   ·exact⟨k,by omega,by omega,rfl⟩
   ·exact⟨j,h,by omega,rfl⟩
  ·rintro ⟨j,h,hj,rfl⟩
   rcases Nat.lt_or_ge j k with h'|h'
   ·exact Or.inr ⟨j,h,h',rfl⟩
   ·have:j=k:=by omega
    subst this;exact Or.inl rfl
theorem VI {l:List ByteArray} (h:xN (fun s:ByteArray=>s) l):l.Nodup:=by
 refine h.imp fun {a b} hab e=>?_
 subst e;have:=zhc hab;rw[kY] at this; cases this
theorem zch (u:List ByteArray):(JG u).map toB=yv u u.length:=by
 obtain⟨h1,h2⟩:=zgF u;have hr:xN (fun s:ByteArray=>s) ((JG u).map toB):=by
  refine List.pairwise_map.2 (h1.imp fun {a b} hab=>?_);show gtB (toB b) (toB a)=true;unfold gtB;rw[Lib.toList_data,Lib.toList_data,Jh,Jh,ky hab];have hne:(b==a)=false:=by
   rw[beq_eq_false_iff_ne];intro e;subst e;rw[Z7] at hab; cases hab
  rw[hne]; rfl
 have hu:=ZD u u.length;refine Y0 (fun s:ByteArray=>s) hr hu ((List.perm_ext_iff_of_nodup (VI hr) (VI hu)).2 fun x=>?_);rw[Yd u u.length (Nat.le_refl _),List.mem_map]
 constructor
 ·rintro ⟨y,hy,rfl⟩
  obtain⟨s,hs,rfl⟩:=(h2 y).1 hy;obtain⟨j,hj,e⟩:=List.getElem_of_mem hs;exact⟨j,hj,hj,by rw[e,zbx]⟩
 ·rintro ⟨j,hj,_,rfl⟩
  exact⟨u[j].data.toList,(h2 _).2 ⟨u[j],List.getElem_mem hj,rfl⟩,zbx _⟩
end Go.Proofs.YtedpiamfpbdhoaaGreatDoor
namespace Go.Proofs
open Go.Shelf
def Tryz.lays190_ren:Go.Shelf.Ren:=⟨fun|190=>35|125=>86|258=>85|128=>150|129=>151|302=>141|303=>142|304=>143|305=>144|306=>145|307=>146|308=>147|309=>148|310=>149|333=>215|329=>216|330=>217|334=>218|335=>219|336=>220|344=>279|n=>n,fun|31=>37|9=>9|3=>3|46=>154|0=>0|51=>210|53=>212|4=>4|183=>202|182=>201|131=>207|5=>5|218=>259|222=>263|228=>296|229=>297|n=>n,fun|n=>n⟩
theorem Tryz.lays190:Go.Proofs.Lays.n190 Tryz.prog Tryz.lays190_ren:={
 mixed:=by kernel_rfl
 f125:=Tryz.func86.trans (congrArg some (by kernel_rfl))
 f128:=Tryz.func150.trans (congrArg some (by kernel_rfl))
 f129:=Tryz.func151.trans (congrArg some (by kernel_rfl))
 f190:=Tryz.func35.trans (congrArg some (by kernel_rfl))
 f258:=Tryz.func85.trans (congrArg some (by kernel_rfl))
 f302:=Tryz.func141.trans (congrArg some (by kernel_rfl))
 f303:=Tryz.func142.trans (congrArg some (by kernel_rfl))
 f304:=Tryz.func143.trans (congrArg some (by kernel_rfl))
 f305:=Tryz.func144.trans (congrArg some (by kernel_rfl))
 f306:=Tryz.func145.trans (congrArg some (by kernel_rfl))
 f307:=Tryz.func146.trans (congrArg some (by kernel_rfl))
 f308:=Tryz.func147.trans (congrArg some (by kernel_rfl))
 f309:=Tryz.func148.trans (congrArg some (by kernel_rfl))
 f310:=Tryz.func149.trans (congrArg some (by kernel_rfl))
 f329:=Tryz.func216.trans (congrArg some (by kernel_rfl))
 f330:=Tryz.func217.trans (congrArg some (by kernel_rfl))
 f333:=Tryz.func215.trans (congrArg some (by kernel_rfl))
 f334:=Tryz.func218.trans (congrArg some (by kernel_rfl))
 f335:=Tryz.func219.trans (congrArg some (by kernel_rfl))
 f336:=Tryz.func220.trans (congrArg some (by kernel_rfl))
 f344:=Tryz.func279.trans (congrArg some (by kernel_rfl))
 t0:=Tryz.underlying0
 a0:=Tryz.isAgg0
 z0:=Tryz.sizeOf0
 v0:=Tryz.zeroValue0
 t3:=Tryz.underlying3
 a3:=Tryz.isAgg3
 z3:=Tryz.sizeOf3
 v3:=Tryz.zeroValue3
 t4:=Tryz.underlying4
 a4:=Tryz.isAgg4
 z4:=Tryz.sizeOf4
 v4:=Tryz.zeroValue4
 t5:=Tryz.underlying5
 a5:=Tryz.isAgg5
 z5:=Tryz.sizeOf5
 v5:=Tryz.zeroValue5
 t9:=Tryz.underlying9
 a9:=Tryz.isAgg9
 z9:=Tryz.sizeOf9
 v9:=Tryz.zeroValue9
 t31:=Tryz.underlying37
 a31:=Tryz.isAgg37
 z31:=Tryz.sizeOf37
 v31:=Tryz.zeroValue37
 t46:=Tryz.underlying154
 a46:=Tryz.isAgg154
 z46:=Tryz.sizeOf154
 v46:=Tryz.zeroValue154
 t51:=Tryz.underlying210
 a51:=Tryz.isAgg210
 z51:=Tryz.sizeOf210
 v51:=Tryz.zeroValue210
 t53:=Tryz.underlying212
 a53:=Tryz.isAgg212
 z53:=Tryz.sizeOf212
 v53:=Tryz.zeroValue212
 t131:=Tryz.underlying207
 a131:=Tryz.isAgg207
 z131:=Tryz.sizeOf207
 v131:=Tryz.zeroValue207
 t182:=Tryz.underlying201
 a182:=Tryz.isAgg201
 z182:=Tryz.sizeOf201
 v182:=Tryz.zeroValue201
 t183:=Tryz.underlying202
 a183:=Tryz.isAgg202
 z183:=Tryz.sizeOf202
 v183:=Tryz.zeroValue202
 t218:=Tryz.underlying259
 a218:=Tryz.isAgg259
 z218:=Tryz.sizeOf259
 v218:=Tryz.zeroValue259
 t222:=Tryz.underlying263
 a222:=Tryz.isAgg263
 z222:=Tryz.sizeOf263
 v222:=Tryz.zeroValue263
 t228:=Tryz.underlying296
 a228:=Tryz.isAgg296
 z228:=Tryz.sizeOf296
 v228:=Tryz.zeroValue296
 t229:=Tryz.underlying297
 a229:=Tryz.isAgg297
 z229:=Tryz.sizeOf297
 v229:=Tryz.zeroValue297 }
open Go.Sort Go.RowKit in
theorem Tryz.slices_Sort_string (blk off cap:Nat) (ss:List (List UInt8)) (w:World) (hH:Holds encStr w blk off ss.toArray) (hblk:blk<w.heap.size) (hsz:ss.length<4611686018427387904) :
  Calls Tryz.prog 35 #[.slice (some ⟨blk,off,none⟩) ss.length cap] w fun e w'=>
   e=.returned (.tuple #[])/\∃n os,w'=grow (putRow encStr (Sort.ahead w n) blk off (ss.mergeSort fun x y=>decide (x<=y)).toArray) os:=Any.slices_Sort_string Tryz.lays190 blk off cap ss w hH hblk hsz
def Tryz.lays194_ren:Go.Shelf.Ren:=⟨fun|194=>36|n=>n,fun|31=>37|9=>9|3=>3|4=>4|0=>0|n=>n,fun|n=>n⟩
theorem Tryz.lays194:Go.Proofs.Lays.n194 Tryz.prog Tryz.lays194_ren:={
 mixed:=by kernel_rfl
 f194:=Tryz.func36.trans (congrArg some (by kernel_rfl))
 t0:=Tryz.underlying0
 a0:=Tryz.isAgg0
 z0:=Tryz.sizeOf0
 v0:=Tryz.zeroValue0
 t3:=Tryz.underlying3
 a3:=Tryz.isAgg3
 z3:=Tryz.sizeOf3
 v3:=Tryz.zeroValue3
 t4:=Tryz.underlying4
 a4:=Tryz.isAgg4
 z4:=Tryz.sizeOf4
 v4:=Tryz.zeroValue4
 t9:=Tryz.underlying9
 a9:=Tryz.isAgg9
 z9:=Tryz.sizeOf9
 v9:=Tryz.zeroValue9
 t31:=Tryz.underlying37
 a31:=Tryz.isAgg37
 z31:=Tryz.sizeOf37
 v31:=Tryz.zeroValue37 }
open Go.RowKit Go.Lib Go.Sort in
theorem Tryz.slices_Compact_string (blk off cap:Nat) (zs:List (List UInt8)) (w:World) (hH:Holds encStr w blk off zs.toArray) (hsz:zs.length<=9223372036854775807) (hcap:zs.length<=cap) :
  Calls Tryz.prog 36 #[.slice (some ⟨blk,off,none⟩) zs.length cap] w fun e w'=>e=.returned (.slice (some ⟨blk,off,none⟩) (Lib.compact zs).length cap)/\∃q,w'=putRow encStr (Sort.ahead w q) blk off (Lib.compact zs++List.replicate (zs.length - (Lib.compact zs).length) []).toArray:=Any.slices_Compact_string Tryz.lays194 blk off cap zs w hH hsz hcap
open Go.RowKit Go.Lib Go.Sort in
theorem Tryz.slices_Compact_string_empty (a:Option Addr) (cap:Nat) (w:World) :
  Calls Tryz.prog 36 #[.slice a 0 cap] w fun e w'=>e=.returned (.slice a 0 cap)/\w'=w:=Any.slices_Compact_string_empty Tryz.lays194 a cap w
open Go.RowKit Go.Sort in
theorem Tryz.slices_Sort_string_none (p:Option Addr) (cap:Nat) (w:World) :
  Calls Tryz.prog 35 #[.slice p 0 cap] w fun e w'=>e=.returned (.tuple #[])/\w'=w:=Any.slices_Sort_string_none Tryz.lays190 p cap w
end Go.Proofs
