import Derived.Test.YtedpiamfpbdhoaaGreatDoorJFg17
set_option maxHeartbeats 40000000
set_option maxRecDepth 100000
namespace Go.Proofs.YtedpiamfpbdhoaaGreatDoor
open Go.RowKit
def yI (f:Fc):Bool:=((f.types.length:Int)==0)&&((f.funcs.length:Int)==0)
def xZ (i:Im):Int:=if zf i.name=true then (if zW i.face=0 then Kd (i.there||yI i.face) else zW i.face) else 4
def xE (l:List Im):Int:=if 24<(l.length:Int) then 1 else zw xZ Im.name l ⟨#[]⟩
def Xs (S:Nat->Prop) (w:World) (i:Im) (v:Value):Prop:=∃vt vf,v=.agg #[.string i.name,.bool i.there,vt,vf]/\i.name.size<=maxLen/\Qs S w i.face vt vf
theorem Xs.keep {S S':Nat->Prop} {w w':World} (hk:Keeps S S' w w') {i:Im} {v:Value} (h:Xs S w i v):Xs S' w' i v:=by
 obtain⟨vt,vf,rfl,h1,h2⟩:=h;exact⟨vt,vf,rfl,h1,h2.keep hk⟩
theorem zhu {S:Nat->Prop} {w:World} {i:Im} {b o:Nat} (h:yd S w i b o):∃a n cap a2 n2 cap2,w.cell? ⟨b,o,none⟩=some (.string i.name)/\w.cell? ⟨b,o+1,none⟩=some (.bool i.there)/\w.cell? ⟨b,o+2,none⟩=some (.slice a n cap)/\w.cell? ⟨b,o+3,none⟩=some (.slice a2 n2 cap2)/\Xs S w i (.agg #[.string i.name,.bool i.there,.slice a n cap,.slice a2 n2 cap2]):=by
 obtain⟨⟨h0,z0⟩,h1,vt,vf,h2,h3,h4⟩:=h;obtain⟨a,n,cap,rfl⟩:=h4.1.slice;obtain⟨a2,n2,cap2,rfl⟩:=h4.2.slice;exact⟨a,n,cap,a2,n2,cap2,h0,h1,h2,h3,_,_,rfl,z0,h4⟩
theorem Ke (x:ByteArray) (y:Bool) (a:Option Addr) (n cap:Nat) (a2:Option Addr) (n2 cap2:Nat) (w:World):Calls Tryz.prog 51 #[.agg #[.string x,.bool y,.slice a n cap,.slice a2 n2 cap2]] w fun e w'=>e=.returned (.string x)/\Below w.heap.size w w':=by
 go_enter Tryz.func51,Tryz.ntmps51
 go_wp2
 go_ret;exact⟨rfl,(Below.refl _ _).alloc (Nat.le_refl _) _⟩
theorem Ql (f:Fc) (a:Option Addr) (cap:Nat) (a2:Option Addr) (cap2:Nat) (w:World):Calls Tryz.prog 93 #[.agg #[.slice a f.types.length cap,.slice a2 f.funcs.length cap2]] w fun e w'=>e=.returned (.bool (yI f))/\Below w.heap.size w w':=by
 have HE:Hid (yI f=(((f.types.length:Int)==0)&&((f.funcs.length:Int)==0))):=rfl;have HA:Hid (∀o,Below w.heap.size w (w.alloc o)):=fun o=>(Below.refl _ _).alloc (Nat.le_refl _) _
 generalize yI f=r at *;generalize f.types.length=n at *;generalize f.funcs.length=m at *
 cases hn:((n:Int)==0) with
 |false=>
  have HR:Hid (r=false):=by show _=_; rw[HE.out,hn]; rfl
  clear HE;go_enter Tryz.func93,Tryz.ntmps93
  go_wp2
  go_ret;exact⟨by rw[HR.out]; rfl,HA.out _⟩
 |true=>
  cases hm:((m:Int)==0) with
  |false=>
   have HR:Hid (r=false):=by show _=_; rw[HE.out,hn,hm]; rfl
   clear HE;go_enter Tryz.func93,Tryz.ntmps93
   go_wp2
   go_ret;exact⟨by rw[HR.out]; rfl,HA.out _⟩
  |true=>
   have HR:Hid (r=true):=by show _=_; rw[HE.out,hn,hm]; rfl
   clear HE;go_enter Tryz.func93,Tryz.ntmps93
   go_wp2
   go_ret;exact⟨by rw[HR.out]; rfl,HA.out _⟩
theorem V8 (S:Nat->Prop) (i:Im) (v:Value) (w:World) (hS:∀b,S b->b<w.heap.size) (hv:Xs S w i v) (hi:zf i.name=false) :
  Calls Tryz.prog 52 #[v] w fun e w'=>e=.returned (.int .i64 (4))/\Below w.heap.size w w':=by
 obtain⟨vt,vf,rfl,hz,hcs⟩:=hv;have HI:Hid (∀W,Calls Tryz.prog 88 #[.string i.name] W fun e w'=>e=.returned (.bool (zf i.name))/\Below W.heap.size W w'):=fun W=>zX _ hz W
 have HF:Hid (∀W,Below w.heap.size w W->Calls Tryz.prog 14 #[.agg #[vt,vf]] W fun e w'=>e=.returned (.int .i64 (zW i.face))/\Below W.heap.size W w'):=fun W hW=>
  v8 S _ _ W (fun b hb=>Nat.lt_of_lt_of_le (hS b hb) hW.size) ⟨_,_,rfl,hcs.keep (Keeps.below hW hS)⟩
 obtain⟨a,cap,rfl⟩:=hcs.1.is;obtain⟨a2,cap2,rfl⟩:=hcs.2.is;have HM:Hid (∀W,Calls Tryz.prog 93 #[.agg #[.slice a i.face.types.length cap,.slice a2 i.face.funcs.length cap2]] W fun e w'=>e=.returned (.bool (yI i.face))/\Below W.heap.size W w'):=fun W=>Ql _ _ _ _ _ W
 clear hcs hz hS;generalize zW i.face=q at *;generalize yI i.face=em at *;generalize i.face.types.length=n at *;generalize i.face.funcs.length=m at *;generalize i.there=th at *;generalize zf i.name=idn at *;generalize i.name=x at *;obtain⟨w2,hwe,hs2,p1,p2,p3,hbel⟩:∃w2,w.alloc (.cells #[.string x,.bool th,.slice a n cap,.slice a2 m cap2] 49)=w2/\w2.heap.size=w.heap.size+1/\w2.cell? ⟨w.heap.size,1,none⟩=some (.bool th)/\w2.cell? ⟨w.heap.size,2,none⟩=some (.slice a n cap)/\w2.cell? ⟨w.heap.size,3,none⟩=some (.slice a2 m cap2)/\Below w.heap.size w w2:=
  ⟨_,rfl,by simp,by simp[go_sem],by simp[go_sem],by simp[go_sem],(Below.refl _ _).alloc (Nat.le_refl _) _⟩
 have HCell:Hid (∀W,Below w2.heap.size w2 W->(W.cell? ⟨w.heap.size,1,none⟩=some (.bool th)/\W.cell? ⟨w.heap.size,2,none⟩=some (.slice a n cap)/\W.cell? ⟨w.heap.size,3,none⟩=some (.slice a2 m cap2))/\Below w.heap.size w W):=fun W h=>
  ⟨⟨(h.cell (p:=⟨w.heap.size,1,none⟩) (by show w.heap.size<_; omega)).trans p1,(h.cell (p:=⟨w.heap.size,2,none⟩) (by show w.heap.size<_; omega)).trans p2,(h.cell (p:=⟨w.heap.size,3,none⟩) (by show w.heap.size<_; omega)).trans p3⟩,hbel.trans (h.mono hbel.size)⟩
 have HWe:=zd hwe;clear hwe hbel p1 p2 p3;subst hi;go_enter Tryz.func52,Tryz.ntmps52;go_wp2_with fail;rw[HWe.out];refine (HI.out _).mono ?_;rintro e w3 ⟨rfl,hb3⟩;obtain⟨⟨c1,c2,c3⟩,hb⟩:=HCell.out _ hb3;have HB3:=zd hb;have HBb:=zd hb3;clear hb3 hb;go_wp2_with fail;go_ret;exact⟨rfl,HB3.out⟩
theorem V9 (S:Nat->Prop) (i:Im) (v:Value) (w:World) (hS:∀b,S b->b<w.heap.size) (hv:Xs S w i v) (hi:zf i.name=true) (hq:zW i.face≠0) :
  Calls Tryz.prog 52 #[v] w fun e w'=>e=.returned (.int .i64 (zW i.face))/\Below w.heap.size w w':=by
 obtain⟨vt,vf,rfl,hz,hcs⟩:=hv;have HI:Hid (∀W,Calls Tryz.prog 88 #[.string i.name] W fun e w'=>e=.returned (.bool (zf i.name))/\Below W.heap.size W w'):=fun W=>zX _ hz W
 have HF:Hid (∀W,Below w.heap.size w W->Calls Tryz.prog 14 #[.agg #[vt,vf]] W fun e w'=>e=.returned (.int .i64 (zW i.face))/\Below W.heap.size W w'):=fun W hW=>
  v8 S _ _ W (fun b hb=>Nat.lt_of_lt_of_le (hS b hb) hW.size) ⟨_,_,rfl,hcs.keep (Keeps.below hW hS)⟩
 obtain⟨a,cap,rfl⟩:=hcs.1.is;obtain⟨a2,cap2,rfl⟩:=hcs.2.is;have HM:Hid (∀W,Calls Tryz.prog 93 #[.agg #[.slice a i.face.types.length cap,.slice a2 i.face.funcs.length cap2]] W fun e w'=>e=.returned (.bool (yI i.face))/\Below W.heap.size W w'):=fun W=>Ql _ _ _ _ _ W
 clear hcs hz hS;generalize zW i.face=q at *;generalize yI i.face=em at *;generalize i.face.types.length=n at *;generalize i.face.funcs.length=m at *;generalize i.there=th at *;generalize zf i.name=idn at *;generalize i.name=x at *;obtain⟨w2,hwe,hs2,p1,p2,p3,hbel⟩:∃w2,w.alloc (.cells #[.string x,.bool th,.slice a n cap,.slice a2 m cap2] 49)=w2/\w2.heap.size=w.heap.size+1/\w2.cell? ⟨w.heap.size,1,none⟩=some (.bool th)/\w2.cell? ⟨w.heap.size,2,none⟩=some (.slice a n cap)/\w2.cell? ⟨w.heap.size,3,none⟩=some (.slice a2 m cap2)/\Below w.heap.size w w2:=
  ⟨_,rfl,by simp,by simp[go_sem],by simp[go_sem],by simp[go_sem],(Below.refl _ _).alloc (Nat.le_refl _) _⟩
 have HCell:Hid (∀W,Below w2.heap.size w2 W->(W.cell? ⟨w.heap.size,1,none⟩=some (.bool th)/\W.cell? ⟨w.heap.size,2,none⟩=some (.slice a n cap)/\W.cell? ⟨w.heap.size,3,none⟩=some (.slice a2 m cap2))/\Below w.heap.size w W):=fun W h=>
  ⟨⟨(h.cell (p:=⟨w.heap.size,1,none⟩) (by show w.heap.size<_; omega)).trans p1,(h.cell (p:=⟨w.heap.size,2,none⟩) (by show w.heap.size<_; omega)).trans p2,(h.cell (p:=⟨w.heap.size,3,none⟩) (by show w.heap.size<_; omega)).trans p3⟩,hbel.trans (h.mono hbel.size)⟩
 have HWe:=zd hwe;clear hwe hbel p1 p2 p3;subst hi;have hq':(q != 0)=true:=by simpa using hq
 clear hq;go_enter Tryz.func52,Tryz.ntmps52;go_wp2_with fail;rw[HWe.out];refine (HI.out _).mono ?_;rintro e w3 ⟨rfl,hb3⟩;obtain⟨⟨c1,c2,c3⟩,hb⟩:=HCell.out _ hb3;have HB3:=zd hb;have HBb:=zd hb3;clear hb3 hb;go_wp2_with fail;refine (HF.out _ HB3.out).mono ?_;rintro e w4 ⟨rfl,hb4⟩;obtain⟨⟨c1',c2',c3'⟩,hb⟩:=HCell.out _ (HBb.out.trans (hb4.mono HBb.out.size));have HB4:=zd hb;clear hb4 hb c1 c2 c3;go_wp2_with fail;go_ret;exact⟨rfl,HB4.out⟩
theorem Vw (S:Nat->Prop) (i:Im) (v:Value) (w:World) (hS:∀b,S b->b<w.heap.size) (hv:Xs S w i v) (hi:zf i.name=true) (hq:zW i.face=0) (ht:i.there=true) :
  Calls Tryz.prog 52 #[v] w fun e w'=>e=.returned (.int .i64 (0))/\Below w.heap.size w w':=by
 obtain⟨vt,vf,rfl,hz,hcs⟩:=hv;have HI:Hid (∀W,Calls Tryz.prog 88 #[.string i.name] W fun e w'=>e=.returned (.bool (zf i.name))/\Below W.heap.size W w'):=fun W=>zX _ hz W
 have HF:Hid (∀W,Below w.heap.size w W->Calls Tryz.prog 14 #[.agg #[vt,vf]] W fun e w'=>e=.returned (.int .i64 (zW i.face))/\Below W.heap.size W w'):=fun W hW=>
  v8 S _ _ W (fun b hb=>Nat.lt_of_lt_of_le (hS b hb) hW.size) ⟨_,_,rfl,hcs.keep (Keeps.below hW hS)⟩
 obtain⟨a,cap,rfl⟩:=hcs.1.is;obtain⟨a2,cap2,rfl⟩:=hcs.2.is;have HM:Hid (∀W,Calls Tryz.prog 93 #[.agg #[.slice a i.face.types.length cap,.slice a2 i.face.funcs.length cap2]] W fun e w'=>e=.returned (.bool (yI i.face))/\Below W.heap.size W w'):=fun W=>Ql _ _ _ _ _ W
 clear hcs hz hS;generalize zW i.face=q at *;generalize yI i.face=em at *;generalize i.face.types.length=n at *;generalize i.face.funcs.length=m at *;generalize i.there=th at *;generalize zf i.name=idn at *;generalize i.name=x at *;obtain⟨w2,hwe,hs2,p1,p2,p3,hbel⟩:∃w2,w.alloc (.cells #[.string x,.bool th,.slice a n cap,.slice a2 m cap2] 49)=w2/\w2.heap.size=w.heap.size+1/\w2.cell? ⟨w.heap.size,1,none⟩=some (.bool th)/\w2.cell? ⟨w.heap.size,2,none⟩=some (.slice a n cap)/\w2.cell? ⟨w.heap.size,3,none⟩=some (.slice a2 m cap2)/\Below w.heap.size w w2:=
  ⟨_,rfl,by simp,by simp[go_sem],by simp[go_sem],by simp[go_sem],(Below.refl _ _).alloc (Nat.le_refl _) _⟩
 have HCell:Hid (∀W,Below w2.heap.size w2 W->(W.cell? ⟨w.heap.size,1,none⟩=some (.bool th)/\W.cell? ⟨w.heap.size,2,none⟩=some (.slice a n cap)/\W.cell? ⟨w.heap.size,3,none⟩=some (.slice a2 m cap2))/\Below w.heap.size w W):=fun W h=>
  ⟨⟨(h.cell (p:=⟨w.heap.size,1,none⟩) (by show w.heap.size<_; omega)).trans p1,(h.cell (p:=⟨w.heap.size,2,none⟩) (by show w.heap.size<_; omega)).trans p2,(h.cell (p:=⟨w.heap.size,3,none⟩) (by show w.heap.size<_; omega)).trans p3⟩,hbel.trans (h.mono hbel.size)⟩
 have HWe:=zd hwe;clear hwe hbel p1 p2 p3;subst hi hq ht;go_enter Tryz.func52,Tryz.ntmps52;go_wp2_with fail;rw[HWe.out];refine (HI.out _).mono ?_;rintro e w3 ⟨rfl,hb3⟩;obtain⟨⟨c1,c2,c3⟩,hb⟩:=HCell.out _ hb3;have HB3:=zd hb;have HBb:=zd hb3;clear hb3 hb;go_wp2_with fail;refine (HF.out _ HB3.out).mono ?_;rintro e w4 ⟨rfl,hb4⟩;obtain⟨⟨c1',c2',c3'⟩,hb⟩:=HCell.out _ (HBb.out.trans (hb4.mono HBb.out.size));have HB4:=zd hb;clear hb4 hb c1 c2 c3;go_wp2_with fail;go_ret;exact⟨rfl,HB4.out⟩
theorem Ja (S:Nat->Prop) (i:Im) (v:Value) (w:World) (hS:∀b,S b->b<w.heap.size) (hv:Xs S w i v) (hi:zf i.name=true) (hq:zW i.face=0) (ht:i.there=false) (hn:yI i.face=true) :
  Calls Tryz.prog 52 #[v] w fun e w'=>e=.returned (.int .i64 (0))/\Below w.heap.size w w':=by
 obtain⟨vt,vf,rfl,hz,hcs⟩:=hv;have HI:Hid (∀W,Calls Tryz.prog 88 #[.string i.name] W fun e w'=>e=.returned (.bool (zf i.name))/\Below W.heap.size W w'):=fun W=>zX _ hz W
 have HF:Hid (∀W,Below w.heap.size w W->Calls Tryz.prog 14 #[.agg #[vt,vf]] W fun e w'=>e=.returned (.int .i64 (zW i.face))/\Below W.heap.size W w'):=fun W hW=>
  v8 S _ _ W (fun b hb=>Nat.lt_of_lt_of_le (hS b hb) hW.size) ⟨_,_,rfl,hcs.keep (Keeps.below hW hS)⟩
 obtain⟨a,cap,rfl⟩:=hcs.1.is;obtain⟨a2,cap2,rfl⟩:=hcs.2.is;have HM:Hid (∀W,Calls Tryz.prog 93 #[.agg #[.slice a i.face.types.length cap,.slice a2 i.face.funcs.length cap2]] W fun e w'=>e=.returned (.bool (yI i.face))/\Below W.heap.size W w'):=fun W=>Ql _ _ _ _ _ W
 clear hcs hz hS;generalize zW i.face=q at *;generalize yI i.face=em at *;generalize i.face.types.length=n at *;generalize i.face.funcs.length=m at *;generalize i.there=th at *;generalize zf i.name=idn at *;generalize i.name=x at *;obtain⟨w2,hwe,hs2,p1,p2,p3,hbel⟩:∃w2,w.alloc (.cells #[.string x,.bool th,.slice a n cap,.slice a2 m cap2] 49)=w2/\w2.heap.size=w.heap.size+1/\w2.cell? ⟨w.heap.size,1,none⟩=some (.bool th)/\w2.cell? ⟨w.heap.size,2,none⟩=some (.slice a n cap)/\w2.cell? ⟨w.heap.size,3,none⟩=some (.slice a2 m cap2)/\Below w.heap.size w w2:=
  ⟨_,rfl,by simp,by simp[go_sem],by simp[go_sem],by simp[go_sem],(Below.refl _ _).alloc (Nat.le_refl _) _⟩
 have HCell:Hid (∀W,Below w2.heap.size w2 W->(W.cell? ⟨w.heap.size,1,none⟩=some (.bool th)/\W.cell? ⟨w.heap.size,2,none⟩=some (.slice a n cap)/\W.cell? ⟨w.heap.size,3,none⟩=some (.slice a2 m cap2))/\Below w.heap.size w W):=fun W h=>
  ⟨⟨(h.cell (p:=⟨w.heap.size,1,none⟩) (by show w.heap.size<_; omega)).trans p1,(h.cell (p:=⟨w.heap.size,2,none⟩) (by show w.heap.size<_; omega)).trans p2,(h.cell (p:=⟨w.heap.size,3,none⟩) (by show w.heap.size<_; omega)).trans p3⟩,hbel.trans (h.mono hbel.size)⟩
 have HWe:=zd hwe;clear hwe hbel p1 p2 p3;subst hi hq ht hn;go_enter Tryz.func52,Tryz.ntmps52;go_wp2_with fail;rw[HWe.out];refine (HI.out _).mono ?_;rintro e w3 ⟨rfl,hb3⟩;obtain⟨⟨c1,c2,c3⟩,hb⟩:=HCell.out _ hb3;have HB3:=zd hb;have HBb:=zd hb3;clear hb3 hb;go_wp2_with fail;refine (HF.out _ HB3.out).mono ?_;rintro e w4 ⟨rfl,hb4⟩;obtain⟨⟨c1',c2',c3'⟩,hb⟩:=HCell.out _ (HBb.out.trans (hb4.mono HBb.out.size));have HB4:=zd hb;clear hb4 hb c1 c2 c3;go_wp2_with fail;refine (HM.out _).mono ?_;rintro e w5 ⟨rfl,hb5⟩;have HB5:=zd (HB4.out.trans (hb5.mono HB4.out.size));clear hb5;go_wp2_with fail;go_ret;exact⟨rfl,HB5.out⟩
theorem Jb (S:Nat->Prop) (i:Im) (v:Value) (w:World) (hS:∀b,S b->b<w.heap.size) (hv:Xs S w i v) (hi:zf i.name=true) (hq:zW i.face=0) (ht:i.there=false) (hn:yI i.face=false) :
  Calls Tryz.prog 52 #[v] w fun e w'=>e=.returned (.int .i64 (4))/\Below w.heap.size w w':=by
 obtain⟨vt,vf,rfl,hz,hcs⟩:=hv;have HI:Hid (∀W,Calls Tryz.prog 88 #[.string i.name] W fun e w'=>e=.returned (.bool (zf i.name))/\Below W.heap.size W w'):=fun W=>zX _ hz W
 have HF:Hid (∀W,Below w.heap.size w W->Calls Tryz.prog 14 #[.agg #[vt,vf]] W fun e w'=>e=.returned (.int .i64 (zW i.face))/\Below W.heap.size W w'):=fun W hW=>
  v8 S _ _ W (fun b hb=>Nat.lt_of_lt_of_le (hS b hb) hW.size) ⟨_,_,rfl,hcs.keep (Keeps.below hW hS)⟩
 obtain⟨a,cap,rfl⟩:=hcs.1.is;obtain⟨a2,cap2,rfl⟩:=hcs.2.is;have HM:Hid (∀W,Calls Tryz.prog 93 #[.agg #[.slice a i.face.types.length cap,.slice a2 i.face.funcs.length cap2]] W fun e w'=>e=.returned (.bool (yI i.face))/\Below W.heap.size W w'):=fun W=>Ql _ _ _ _ _ W
 clear hcs hz hS;generalize zW i.face=q at *;generalize yI i.face=em at *;generalize i.face.types.length=n at *;generalize i.face.funcs.length=m at *;generalize i.there=th at *;generalize zf i.name=idn at *;generalize i.name=x at *;obtain⟨w2,hwe,hs2,p1,p2,p3,hbel⟩:∃w2,w.alloc (.cells #[.string x,.bool th,.slice a n cap,.slice a2 m cap2] 49)=w2/\w2.heap.size=w.heap.size+1/\w2.cell? ⟨w.heap.size,1,none⟩=some (.bool th)/\w2.cell? ⟨w.heap.size,2,none⟩=some (.slice a n cap)/\w2.cell? ⟨w.heap.size,3,none⟩=some (.slice a2 m cap2)/\Below w.heap.size w w2:=
  ⟨_,rfl,by simp,by simp[go_sem],by simp[go_sem],by simp[go_sem],(Below.refl _ _).alloc (Nat.le_refl _) _⟩
 have HCell:Hid (∀W,Below w2.heap.size w2 W->(W.cell? ⟨w.heap.size,1,none⟩=some (.bool th)/\W.cell? ⟨w.heap.size,2,none⟩=some (.slice a n cap)/\W.cell? ⟨w.heap.size,3,none⟩=some (.slice a2 m cap2))/\Below w.heap.size w W):=fun W h=>
  ⟨⟨(h.cell (p:=⟨w.heap.size,1,none⟩) (by show w.heap.size<_; omega)).trans p1,(h.cell (p:=⟨w.heap.size,2,none⟩) (by show w.heap.size<_; omega)).trans p2,(h.cell (p:=⟨w.heap.size,3,none⟩) (by show w.heap.size<_; omega)).trans p3⟩,hbel.trans (h.mono hbel.size)⟩
 have HWe:=zd hwe;clear hwe hbel p1 p2 p3;subst hi hq ht hn;go_enter Tryz.func52,Tryz.ntmps52;go_wp2_with fail;rw[HWe.out];refine (HI.out _).mono ?_;rintro e w3 ⟨rfl,hb3⟩;obtain⟨⟨c1,c2,c3⟩,hb⟩:=HCell.out _ hb3;have HB3:=zd hb;have HBb:=zd hb3;clear hb3 hb;go_wp2_with fail;refine (HF.out _ HB3.out).mono ?_;rintro e w4 ⟨rfl,hb4⟩;obtain⟨⟨c1',c2',c3'⟩,hb⟩:=HCell.out _ (HBb.out.trans (hb4.mono HBb.out.size));have HB4:=zd hb;clear hb4 hb c1 c2 c3;go_wp2_with fail;refine (HM.out _).mono ?_;rintro e w5 ⟨rfl,hb5⟩;have HB5:=zd (HB4.out.trans (hb5.mono HB4.out.size));clear hb5;go_wp2_with fail;go_ret;exact⟨rfl,HB5.out⟩
theorem JC (S:Nat->Prop) (i:Im) (v:Value) (w:World) (hS:∀b,S b->b<w.heap.size) (hv:Xs S w i v) :
  Calls Tryz.prog 52 #[v] w fun e w'=>e=.returned (.int .i64 (xZ i))/\Below w.heap.size w w':=by
 unfold xZ
 cases hi:zf i.name with
 |false=>
  rw[if_neg (by simp)];exact V8 S i v w hS hv hi
 |true=>
  rw[if_pos rfl]
  by_cases hq:zW i.face=0
  ·rw[if_pos hq]
   cases ht:i.there with
   |true=>exact Vw S i v w hS hv hi hq ht
   |false=>
    cases hn:yI i.face with
    |true=>exact Ja S i v w hS hv hi hq ht hn
    |false=>exact Jb S i v w hS hv hi hq ht hn
  ·rw[if_neg hq]
   exact V9 S i v w hS hv hi hq
theorem zdG (S:Nat->Prop) (l:List Im) (v:Value) (w:World) (hS:∀b,S b->b<w.heap.size) (hv:ze S (yd S w) 4 l v) :
  Calls Tryz.prog 50 #[v,.func (.func 51) #[] #[],.func (.func 52) #[] #[]] w fun e w'=>e=.returned (.int .i64 (zw xZ Im.name l ⟨#[]⟩))/\Below w.heap.size w w':=by
 have HV:=zd hv;have hlen:=hv.len;unfold maxLen at hlen;obtain⟨a,cap,rfl⟩:=hv.is;have HA:=zd (je.start w);clear hv;go_enter Tryz.func50,Tryz.ntmps50;go_wp2_with fail;refine (X7 _).mono ?_;rintro e w1 ⟨rfl,rfl⟩;go_wp2_with fail
 go_loopw [14] (fun i wr=>∃(j:Nat) (p:ByteArray),j<=l.length/\i=.int .i64 j/\zw xZ Im.name l ⟨#[]⟩=zw xZ Im.name (l.drop j) p/\je w p wr) (fun i _=>l.length - (intOf i).toNat)
 case atStart=>exact⟨0,_,Nat.zero_le _,rfl,rfl,HA.out⟩
 case round=>
  obtain⟨j,p,hj,rfl,hq,hah⟩:=hrel;have HQ:=zd hq;clear hq HA
  by_cases hlt:j<l.length
  ·have hlt':(j:Int)<(l.length:Int):=by omega
   obtain⟨_,b,off,rfl,hb,hat⟩:=HV.out.at hlt;have hbk:=hS b hb;obtain⟨p1,p2,p3,q1,q2,q3,a0,a1,a2,a3,him⟩:=zhu hat;have d0:=(hah.1.cell (p:=⟨b,off+j * 4,none⟩) hbk).trans a0;have d1:=(hah.1.cell (p:=⟨b,off+j * 4+1,none⟩) hbk).trans a1;have d2:=(hah.1.cell (p:=⟨b,off+j * 4+2,none⟩) hbk).trans a2;have d3:=(hah.1.cell (p:=⟨b,off+j * 4+3,none⟩) hbk).trans a3;have hbr:b<wr.heap.size:=Nat.lt_of_lt_of_le hbk hah.1.size;have HC:Hid (∀W,Below wr.heap.size wr W->Calls Tryz.prog 52 #[.agg #[.string l[j].name,.bool l[j].there,.slice p1 p2 p3,.slice q1 q2 q3]] W fun e w'=>e=.returned (.int .i64 (xZ l[j]))/\Below W.heap.size W w'):=fun W hW=>by
    have hbW:=hah.1.trans (hW.mono hah.1.size);exact JC S _ _ W (fun b hb=>Nat.lt_of_lt_of_le (hS b hb) hbW.size) (him.keep (Keeps.below hbW hS))
   have HAl:Hid (∀o,Below wr.heap.size wr (wr.alloc o)):=fun o=>(Below.refl _ _).alloc (Nat.le_refl _) _
   have HBad:=zd (@YQ _ xZ Im.name l j p hlt);have HLow:=zd (@YR _ xZ Im.name l j p hlt);have HOn:=zd (@V6 _ xZ Im.name l j p hlt);have HAh:Hid (∀o W,Below (wr.alloc o).heap.size (wr.alloc o) W->je w p W):=fun o W hW=>(hah.later ((Below.refl _ _).alloc (Nat.le_refl _) o)).later hW
   have HCe:Hid (∀x y W,Below (wr.alloc (.cells #[.string x,.bool y,.slice p1 p2 p3,.slice q1 q2 q3] 49)).heap.size (wr.alloc (.cells #[.string x,.bool y,.slice p1 p2 p3,.slice q1 q2 q3] 49)) W->W.cell? ⟨wr.heap.size,0,none⟩=some (.string x)/\W.cell? ⟨wr.heap.size,1,none⟩=some (.bool y)/\W.cell? ⟨wr.heap.size,2,none⟩=some (.slice p1 p2 p3)/\W.cell? ⟨wr.heap.size,3,none⟩=some (.slice q1 q2 q3)):=fun x y W hW=>
    ⟨(hW.cell (p:=⟨wr.heap.size,0,none⟩) (by simp)).trans (by simp[go_sem]),(hW.cell (p:=⟨wr.heap.size,1,none⟩) (by simp)).trans (by simp[go_sem]),(hW.cell (p:=⟨wr.heap.size,2,none⟩) (by simp)).trans (by simp[go_sem]),(hW.cell (p:=⟨wr.heap.size,3,none⟩) (by simp)).trans (by simp[go_sem])⟩
   clear a0 a1 a2 a3 him hat HV hah;generalize xZ l[j]=n at *;generalize l[j].name=x at *;generalize l[j].there=y at *
   by_cases hn:n=0
   ·subst hn
    go_wp2_with fail;refine (HC.out _ (HAl.out _)).mono ?_;rintro e w1 ⟨rfl,hb1⟩;obtain⟨e0,e1,e2,e3⟩:=HCe.out _ _ _ hb1;have ha1:=HAh.out _ _ hb1;have HA1:=zd ha1;clear hb1 ha1;go_wp2_with fail;refine (Ke x y _ _ _ _ _ _ _).mono ?_;rintro e w2 ⟨rfl,hb2⟩;have ha2:=HA1.out.later hb2;have HA2:=zd ha2;obtain⟨-,hsz2,hc2,hf2⟩:=ha2;clear hb2
    cases hg:gtB x p with
    |true=>
     have HOn':=zd (HOn.out trivial hg);go_wp2_with fail;refine (jx w.heap.size x p _ hc2 hf2).mono ?_;rintro e w3 ⟨rfl,rfl⟩;rw[hg];go_wp2_with fail;exact⟨⟨j+1,x,by omega,by go_num,HQ.out.trans HOn'.out,HA2.out.put x⟩,by simp[intOf]; omega⟩
    |false=>
     have HLow':=zd (HLow.out trivial hg);have HF:Hid (∀s,Below w.heap.size w (w2.setCell ⟨w.heap.size,0,none⟩ (.string s))):=fun s=>(HA2.out.put s).1
     go_wp2_with fail;refine (jx w.heap.size x p _ hc2 hf2).mono ?_;rintro e w3 ⟨rfl,rfl⟩;rw[hg];go_wp2_with fail;go_ret;exact⟨by rw[HQ.out,HLow'.out]; rfl,HF.out _⟩
   ·have hn':(n != 0)=true:=by simpa using hn
    have HBad':=zd (HBad.out hn);clear hn;go_wp2_with fail;refine (HC.out _ (HAl.out _)).mono ?_;rintro e w1 ⟨rfl,hb1⟩;have HB1:=zd (HAh.out _ _ hb1).1;clear hb1;go_wp2_with fail;go_ret;exact⟨by rw[HQ.out,HBad'.out]; rfl,HB1.out⟩
  ·have hnl:¬(j:Int)<(l.length:Int):=by omega
   have HE:Hid (zw xZ Im.name l ⟨#[]⟩=0):=HQ.out.trans (YS (by omega));have HB:=zd hah.1;clear HV hah HQ;go_wp2_with fail;go_ret;exact⟨by rw[HE.out]; rfl,HB.out⟩
theorem Jc (S:Nat->Prop) (l:List Im) (v:Value) (w:World) (hS:∀b,S b->b<w.heap.size) (hv:ze S (yd S w) 4 l v) :
  Calls Tryz.prog 17 #[v] w fun e w'=>e=.returned (.int .i64 (xE l))/\Below w.heap.size w w':=by
 have HC:Hid (Calls Tryz.prog 50 #[v,.func (.func 51) #[] #[],.func (.func 52) #[] #[]] w fun e w'=>e=.returned (.int .i64 (zw xZ Im.name l ⟨#[]⟩))/\Below w.heap.size w w'):=zdG S l v w hS hv;have HE:Hid (xE l=if 24<(l.length:Int) then 1 else zw xZ Im.name l ⟨#[]⟩):=rfl;obtain⟨a,cap,rfl⟩:=hv.is;clear hv;generalize xE l=r at *;generalize zw xZ Im.name l ⟨#[]⟩=q at *
 by_cases h24:24<(l.length:Int)
 ·have HR:Hid (r=1):=HE.out.trans (if_pos h24)
  clear HE;go_enter Tryz.func17,Tryz.ntmps17;go_wp2_with fail;go_ret;exact⟨by rw[HR.out]; rfl,Below.refl _ _⟩
 ·have HR:Hid (r=q):=HE.out.trans (if_neg h24)
  clear HE;go_enter Tryz.func17,Tryz.ntmps17;go_wp2_with fail;refine HC.out.mono ?_;rintro e w1 ⟨rfl,hb⟩;go_wp2_with fail;go_ret;exact⟨by rw[HR.out]; rfl,hb⟩
def vJ (l:List Im) (s:ByteArray):Nat:=zj (fun i:Im=>sEq i.name s) l
def qY (u:List ByteArray) (l:List Im) (s:ByteArray):Bool:=match l[vJ l s]? with
 |some i=>i.there&&qu u s
 |none=>false
def zK (u:List ByteArray) (l:List Im) (s:ByteArray):Fc:=match l[vJ l s]? with
 |some i=>if (i.there&&qu u s)=true then i.face else ⟨[],[]⟩
 |none=>⟨[],[]⟩
theorem zaP (S:Nat->Prop) (w:World):qC S w ⟨[],[]⟩ (.agg #[.slice none 0 0,.slice none 0 0]):=
 ⟨_,_,rfl,⟨none,0,rfl,⟨by simp,by simp⟩,Or.inl rfl⟩,⟨none,0,rfl,⟨by simp,by simp⟩,Or.inl rfl⟩⟩
theorem Jd {u:List ByteArray} {l:List Im} {s:ByteArray} (h:l.length<=vJ l s):qY u l s=false/\zK u l s=⟨[],[]⟩:=by
 unfold qY zK;rw[List.getElem?_eq_none h];exact⟨rfl,rfl⟩
theorem Kf {u:List ByteArray} {l:List Im} {s:ByteArray} (h:vJ l s<l.length) (hn:(l[vJ l s].there&&qu u s)=false):qY u l s=false/\zK u l s=⟨[],[]⟩:=by
 unfold qY zK;rw[List.getElem?_eq_getElem h];simp only[hn];exact⟨trivial,if_neg (by simp)⟩
theorem Je {u:List ByteArray} {l:List Im} {s:ByteArray} (h:vJ l s<l.length) (hn:(l[vJ l s].there&&qu u s)=true):qY u l s=true/\zK u l s=l[vJ l s].face:=by
 unfold qY zK;rw[List.getElem?_eq_getElem h];simp only[hn];exact⟨trivial,if_pos trivial⟩
theorem Jf (S:Nat->Prop) (m:Mo) (l:List Im) (s:ByteArray) (vm v:Value) (w:World) (hS:∀b,S b->b<w.heap.size) (hm:qT S w m vm) (hv:ze S (yd S w) 4 l v) :
  Calls Tryz.prog 192 #[vm,v,.string s] w fun e w'=>∃a n cap a2 n2 cap2,e=.returned (.tuple #[.agg #[.slice a n cap,.slice a2 n2 cap2],.bool (qY m.uses l s)])/\qC S w (zK m.uses l s) (.agg #[.slice a n cap,.slice a2 n2 cap2])/\Below w.heap.size w w':=by
 obtain⟨vu,vt,vf,rfl,hu,ht,hf⟩:=hm;obtain⟨u1,u2,u3,rfl⟩:=hu.slice;obtain⟨t1,t2,t3,rfl⟩:=ht.slice;obtain⟨f1,f2,f3,rfl⟩:=hf.slice;have HV:=zd hv;have hlen:=hv.len;unfold maxLen at hlen;obtain⟨a,cap,rfl⟩:=hv.is;obtain⟨w2,hwe,hs2,p0,p1,hbel,q0,q1,f0,f1⟩:∃w2,((w.alloc (.cells #[.slice u1 u2 u3,.slice t1 t2 t3,.slice f1 f2 f3] 41)).alloc (.cells #[.string s] 9)).alloc (.cells #[.slice none 0 0,.slice none 0 0] 26)=w2/\w2.heap.size=w.heap.size+3/\
   w2.cell? ⟨w.heap.size,0,none⟩=some (.slice u1 u2 u3)/\w2.cell? ⟨w.heap.size+1,0,none⟩=some (.string s)/\Below w.heap.size w w2/\
   w2.cell? ⟨w.heap.size+2,0,none⟩=some (.slice none 0 0)/\w2.cell? ⟨w.heap.size+2,1,none⟩=some (.slice none 0 0)/\w2.frozen? ⟨w.heap.size+2,0,none⟩=false/\w2.frozen? ⟨w.heap.size+2,1,none⟩=false:=
  ⟨_,rfl,by simp,by simp[go_sem],by simp[go_sem],(((Below.refl _ _).alloc (Nat.le_refl _) _).alloc (by simp) _).alloc (by simp; omega) _,by simp[go_sem],by simp[go_sem],by simp[go_sem],by simp[go_sem]⟩
 have HRes:Hid (∀W,Below w2.heap.size w2 W->(W.cell? ⟨w.heap.size+2,0,none⟩=some (.slice none 0 0)/\W.cell? ⟨w.heap.size+2,1,none⟩=some (.slice none 0 0))/\W.frozen? ⟨w.heap.size+2,0,none⟩=false/\W.frozen? ⟨w.heap.size+2,1,none⟩=false):=fun W h=>by
  exact⟨⟨(h.cell (p:=⟨w.heap.size+2,0,none⟩) (by show w.heap.size+2<_; omega)).trans q0,(h.cell (p:=⟨w.heap.size+2,1,none⟩) (by show w.heap.size+2<_; omega)).trans q1⟩,
   (h.frozen (p:=⟨w.heap.size+2,0,none⟩) (by show w.heap.size+2<_; omega)).trans f0,(h.frozen (p:=⟨w.heap.size+2,1,none⟩) (by show w.heap.size+2<_; omega)).trans f1⟩
 have HSet:Hid (∀W u0 u1,Below w.heap.size w W->Below w.heap.size w ((W.setCell ⟨w.heap.size+2,0,none⟩ u0).setCell ⟨w.heap.size+2,1,none⟩ u1)):=fun W u0 u1 h=>
  (h.setCell (by show w.heap.size<=w.heap.size+2; omega) _).setCell (by show w.heap.size<=w.heap.size+2; omega) _
 clear q0 q1 f0 f1;have HC:Hid (Calls Tryz.prog 265 #[.slice a l.length cap,.func (.func 266) #[] #[.pointer (some ⟨w.heap.size+1,0,none⟩)]] w2 fun e w'=>e=.returned (.int .i64 (zC (fun k:Im=>sEq k.name s) l))/\Below w2.heap.size w2 w'):=
  zgv S _ _ _ _ w2 (fun b hb=>Nat.lt_of_lt_of_le (hS b hb) hbel.size) (qd (Keeps.below hbel hS) hv) p1
 have HU:Hid (∀W,Below w.heap.size w W->Calls Tryz.prog 191 #[.slice u1 u2 u3,.string s] W fun e w'=>e=.returned (.bool (qu m.uses s))/\Below W.heap.size W w'):=fun W hW=>
  YO S _ _ _ W (fun b hb=>Nat.lt_of_lt_of_le (hS b hb) hW.size) (zU (Keeps.below hW hS) hu)
 have HWe:=zd hwe;have HBel:=zd hbel;clear hu ht hf hv hwe hbel
 by_cases hat:vJ l s<l.length
 ·obtain⟨_,b,off,rfl,hb,him⟩:=HV.out.at hat
  have hbk:=hS b hb;obtain⟨x1,x2,x3,y1,y2,y3,a0,a1,a2,a3,hfc⟩:=zbh him;have hI:zC (fun k:Im=>sEq k.name s) l=(vJ l s:Int):=if_pos hat;have HA1:=zd a1;have HA2:=zd a2;have HA3:=zd a3;have HF:=zd hfc;have HYes:=zd (@Je m.uses l s hat);have HNo:=zd (@Kf m.uses l s hat);clear him a0 a1 a2 a3 hfc HV;rw[hI] at HC;clear hI;generalize l[vJ l s].face=fc at *;generalize l[vJ l s].there=th at *;generalize vJ l s=k at *;have hk':(k:Int)<(l.length:Int):=by omega
  have hk0:¬(k:Int)<0:=by omega
  have hk1:(0:Int)<=(k:Int):=by omega
  go_enter Tryz.func192,Tryz.ntmps192;go_wp2_with fail;rw[HWe.out];refine HC.out.mono ?_;rintro e w3 ⟨rfl,hb3⟩;have c0:=(hb3.cell (p:=⟨w.heap.size,0,none⟩) (by show w.heap.size<_; omega)).trans p0;have c1:=(hb3.cell (p:=⟨w.heap.size+1,0,none⟩) (by show w.heap.size+1<_; omega)).trans p1;have hb4:=HBel.out.trans (hb3.mono HBel.out.size);have d1:=(hb4.cell (p:=⟨b,off+k * 4+1,none⟩) hbk).trans HA1.out;have d2:=(hb4.cell (p:=⟨b,off+k * 4+2,none⟩) hbk).trans HA2.out;have d3:=(hb4.cell (p:=⟨b,off+k * 4+3,none⟩) hbk).trans HA3.out;have HB4:=zd hb4;have HB3:=zd hb3;obtain⟨⟨g0,g1⟩,g3,g4⟩:=HRes.out _ hb3;clear hb3 hb4 p0 p1 HC HBel
  cases th with
  |false=>
   have HR:=zd (HNo.out rfl);clear HYes HNo HU;go_wp2_with fail;exact bodyPost_ret (v:=.tuple #[.agg #[.slice none 0 0,.slice none 0 0],.bool false]) (by simp[results,Tryz.results192,go_sem,g0,g1]) rfl ⟨_,_,_,_,_,_,by rw[HR.out.1],by rw[HR.out.2]; exact zaP S w,HSet.out _ _ _ HB4.out⟩
  |true=>
   have HU2:=zd (HU.out w3 HB4.out);clear HU;go_wp2_with fail;refine HU2.out.mono ?_;rintro e w5 ⟨rfl,hb5⟩;have d4:=(hb5.cell (p:=⟨b,off+k * 4+2,none⟩) (by show b<_; have:=HB4.out.size; omega)).trans d2;have d5:=(hb5.cell (p:=⟨b,off+k * 4+3,none⟩) (by show b<_; have:=HB4.out.size; omega)).trans d3;have HB5:=zd (HB4.out.trans (hb5.mono HB4.out.size));clear g0 g1 g3 g4;obtain⟨⟨g0,g1⟩,g3,g4⟩:=HRes.out _ (HB3.out.trans (hb5.mono HB3.out.size));clear hb5 d1 d2 d3 c0 c1
   cases hh:qu m.uses s with
   |false=>
    have HR:=zd (HNo.out (by rw[hh]; rfl));clear HYes HNo HU2;go_wp2_with fail;exact bodyPost_ret (v:=.tuple #[.agg #[.slice none 0 0,.slice none 0 0],.bool false]) (by simp[results,Tryz.results192,go_sem,g0,g1]) rfl ⟨_,_,_,_,_,_,by rw[HR.out.1],by rw[HR.out.2]; exact zaP S w,HSet.out _ _ _ HB5.out⟩
   |true=>
    have HR:=zd (HYes.out (by rw[hh]; rfl));clear HYes HNo HU2;go_wp2_with fail;exact bodyPost_ret (v:=.tuple #[.agg #[.slice x1 x2 x3,.slice y1 y2 y3],.bool true]) (by simp[results,Tryz.results192,go_sem,g0,g1]) rfl ⟨_,_,_,_,_,_,by rw[HR.out.1],by rw[HR.out.2]; exact HF.out,HSet.out _ _ _ HB5.out⟩
 ·have hI:zC (fun k:Im=>sEq k.name s) l=-1:=if_neg hat
  have HR:=zd (Jd (u:=m.uses) (l:=l) (s:=s) (by omega));clear HV HU;rw[hI] at HC;clear hI hat;go_enter Tryz.func192,Tryz.ntmps192;go_wp2_with fail;rw[HWe.out];refine HC.out.mono ?_;rintro e w3 ⟨rfl,hb3⟩;have HB4:=zd (HBel.out.trans (hb3.mono HBel.out.size));obtain⟨⟨g0,g1⟩,g3,g4⟩:=HRes.out _ hb3;clear hb3 p0 p1;go_wp2_with fail;exact bodyPost_ret (v:=.tuple #[.agg #[.slice none 0 0,.slice none 0 0],.bool false]) (by simp[results,Tryz.results192,go_sem,g0,g1]) rfl ⟨_,_,_,_,_,_,by rw[HR.out.1],by rw[HR.out.2]; exact zaP S w,HSet.out _ _ _ HB4.out⟩
theorem X9 {B:Nat} {W W':World} (h:Below W.heap.size W W'):Keeps (fun b=>B<=b/\b<W.heap.size) (fun b=>B<=b/\b<W'.heap.size) W W':=
 ⟨fun b hb=>h.block b hb.2,fun _ hb=>⟨hb.1,Nat.lt_of_lt_of_le hb.2 h.size⟩⟩
theorem Za {B g:Nat} {W:World} (hg:g<B) (o:Nat) (u:Value):Keeps (fun b=>B<=b/\b<W.heap.size) (fun b=>B<=b/\b<(W.setCell ⟨g,o,none⟩ u).heap.size) W (W.setCell ⟨g,o,none⟩ u):=
 ⟨fun b hb=>Below.heap_setCell _ _ _ _ (by show b≠g; have:=hb.1; omega),fun _ hb=>⟨hb.1,by rw[xI]; exact hb.2⟩⟩
def Zv (w:World) (x y:ByteArray) (p:Value) (W:World):Prop:=
 Below w.heap.size w W/\W.cell? ⟨w.heap.size,0,none⟩=some (.string x)/\W.cell? ⟨w.heap.size,1,none⟩=some p/\W.cell? ⟨w.heap.size,2,none⟩=some (.string y)
theorem Zv.later {w:World} {x y:ByteArray} {p:Value} {W W':World} (h:Zv w x y p W) (hb:Below W.heap.size W W'):Zv w x y p W':=by
 obtain⟨h0,h1,h2,h3⟩:=h;exact⟨h0.trans (hb.mono h0.size),(hb.cell (World.block_lt_of_cell? _ _ h1)).trans h1,(hb.cell (World.block_lt_of_cell? _ _ h2)).trans h2,(hb.cell (World.block_lt_of_cell? _ _ h3)).trans h3⟩
theorem Zv.set {w:World} {x y:ByteArray} {p:Value} {W:World} (h:Zv w x y p W) (o:Nat) (u:Value):Zv w x y p (W.setCell ⟨w.heap.size+1,o,none⟩ u):=by
 obtain⟨h0,h1,h2,h3⟩:=h;refine⟨h0.setCell (by show w.heap.size<=w.heap.size+1; omega) _,?_,?_,?_⟩
 ·rw[World.cell?_setCell_far _ _ _ _ (by show w.heap.size+1≠w.heap.size; omega)]; exact h1
 ·rw[World.cell?_setCell_far _ _ _ _ (by show w.heap.size+1≠w.heap.size; omega)]; exact h2
 ·rw[World.cell?_setCell_far _ _ _ _ (by show w.heap.size+1≠w.heap.size; omega)]; exact h3
theorem YT (S:Nat->Prop) (g:Sg) (v:Value) (w:World) (hS:∀b,S b->b<w.heap.size) (hv:qB S w g v) (hz:Kc g) :
  Calls Tryz.prog 49 #[v] w fun e w'=>∃a n cap,e=.returned (.agg #[.string g.name,.slice a n cap,.string g.result])/\ze (fun b=>w.heap.size<=b/\b<w'.heap.size) (zG w') 1 g.params (.slice a n cap)/\Below w.heap.size w w':=by
 have hr:=reachBytes_lt;obtain⟨vp,rfl,hn,hrs,hp⟩:=hv;obtain⟨z0,z1,z2,z3⟩:=hz;have HCx:Hid (∀W,Calls Tryz.prog 57 #[.string g.name] W fun e w'=>e=.returned (.string g.name)/\Below W.heap.size W w'):=fun W=>qM _ W (by omega)
 have HCy:Hid (∀W,Calls Tryz.prog 57 #[.string g.result] W fun e w'=>e=.returned (.string g.result)/\Below W.heap.size W w'):=fun W=>qM _ W (by omega)
 have HCp:Hid (∀W,Below w.heap.size w W->w.heap.size+2<=W.heap.size->Calls Tryz.prog 92 #[vp,.func (.func 57) #[] #[]] W fun e w'=>∃u,e=.returned u/\ze (fun b=>w.heap.size+2<=b/\b<w'.heap.size) (zG w') 1 g.params u/\Below W.heap.size W w'):=fun W hW h2=>by
  refine (ze3 S _ _ W (fun b hb=>Nat.lt_of_lt_of_le (hS b hb) hW.size) (zU (Keeps.below hW hS) hp) z2 z3).mono ?_;rintro e w' ⟨u,rfl,h3,h4⟩;exact⟨u,rfl,h3.imp (fun b hb=>⟨by omega,hb.2⟩) (fun _ _ _ _ _ h=>h),h4⟩
 obtain⟨a,k,cap,rfl⟩:=hp.slice;generalize g.name=x at *;generalize g.result=y at *;generalize g.params=ps at *;obtain⟨w2,hwe,hs2,p0,p1,p2,hbel,hq⟩:∃w2,(w.alloc (.cells #[.string x,.slice a k cap,.string y] 76)).alloc (.cells #[.string ⟨#[]⟩,.slice none 0 0,.string ⟨#[]⟩] 76)=w2/\w2.heap.size=w.heap.size+2/\
   w2.cell? ⟨w.heap.size,0,none⟩=some (.string x)/\w2.cell? ⟨w.heap.size,1,none⟩=some (.slice a k cap)/\w2.cell? ⟨w.heap.size,2,none⟩=some (.string y)/\Below w.heap.size w w2/\
   (w2.cell? ⟨w.heap.size+1,0,none⟩=some (.string ⟨#[]⟩)/\w2.cell? ⟨w.heap.size+1,1,none⟩=some (.slice none 0 0)/\w2.cell? ⟨w.heap.size+1,2,none⟩=some (.string ⟨#[]⟩))/\
   w2.frozen? ⟨w.heap.size+1,0,none⟩=false/\w2.frozen? ⟨w.heap.size+1,1,none⟩=false/\w2.frozen? ⟨w.heap.size+1,2,none⟩=false:=
  ⟨_,rfl,by simp,by simp[go_sem],by simp[go_sem],by simp[go_sem],((Below.refl _ _).alloc (Nat.le_refl _) _).alloc (by simp) _,⟨by simp[go_sem],by simp[go_sem],by simp[go_sem]⟩,by simp[go_sem],by simp[go_sem],by simp[go_sem]⟩
 have HWe:=zd hwe;have HX:Hid (Below (w.heap.size+2) w2 w2.drew):=(Below.refl _ _).drew;have HBel:=zd hbel;have HB0:Hid (∀W,Below (w.heap.size+2) w2 W->Below w.heap.size w W/\w.heap.size+2<=W.heap.size):=fun W h=>⟨HBel.out.trans (h.mono (by omega)),by have:=h.size; omega⟩
 have HK0:Hid (Zv w x y (.slice a k cap) w2.drew):=⟨hbel.drew,p0,p1,p2⟩
 have HN:Hid (∀W W',Zv w x y (.slice a k cap) W->Below W.heap.size W W'->Zv w x y (.slice a k cap) W'):=fun _ _ h hb=>h.later hb
 have HN2:Hid (∀W u v t,Zv w x y (.slice a k cap) W->Zv w x y (.slice a k cap) (((W.setCell ⟨w.heap.size+1,0,none⟩ u).setCell ⟨w.heap.size+1,1,none⟩ v).setCell ⟨w.heap.size+1,2,none⟩ t)):=fun _ u v t h=>((h.set 0 u).set 1 v).set 2 t
 have HQ:Hid (∀W,Below (w.heap.size+2) w2 W->(W.cell? ⟨w.heap.size+1,0,none⟩=some (.string ⟨#[]⟩)/\W.cell? ⟨w.heap.size+1,1,none⟩=some (.slice none 0 0)/\W.cell? ⟨w.heap.size+1,2,none⟩=some (.string ⟨#[]⟩))/\W.frozen? ⟨w.heap.size+1,0,none⟩=false/\W.frozen? ⟨w.heap.size+1,1,none⟩=false/\W.frozen? ⟨w.heap.size+1,2,none⟩=false):=fun W h=>by
  obtain⟨⟨q0,q1,q2⟩,f0,f1,f2⟩:=hq;exact⟨⟨(h.cell (by show w.heap.size+1<_; omega)).trans q0,(h.cell (by show w.heap.size+1<_; omega)).trans q1,(h.cell (by show w.heap.size+1<_; omega)).trans q2⟩,(h.frozen (by show w.heap.size+1<_; omega)).trans f0,(h.frozen (by show w.heap.size+1<_; omega)).trans f1,(h.frozen (by show w.heap.size+1<_; omega)).trans f2⟩
 have HFin:Hid (∀(W:World) (p u v t:Value),ze (fun b=>w.heap.size+2<=b/\b<W.heap.size) (zG W) 1 ps p->ze (fun b=>w.heap.size<=b/\b<(((W.setCell ⟨w.heap.size+1,0,none⟩ u).setCell ⟨w.heap.size+1,1,none⟩ v).setCell ⟨w.heap.size+1,2,none⟩ t).heap.size) (zG (((W.setCell ⟨w.heap.size+1,0,none⟩ u).setCell ⟨w.heap.size+1,1,none⟩ v).setCell ⟨w.heap.size+1,2,none⟩ t)) 1 ps p):=fun W p u v t h=>by
  have h1:=zU (Za (B:=w.heap.size+2) (g:=w.heap.size+1) (by omega) 0 u) h;have h2:=zU (Za (B:=w.heap.size+2) (g:=w.heap.size+1) (by omega) 1 v) h1;have h3:=zU (Za (B:=w.heap.size+2) (g:=w.heap.size+1) (by omega) 2 t) h2;exact h3.imp (fun b hb=>⟨by omega,hb.2⟩) (fun _ _ _ _ _ h=>h)
 clear hn hrs hp z0 z1 z2 z3 hr hwe p0 p1 p2 hbel hq;go_enter Tryz.func49,Tryz.ntmps49;go_wp2_with fail;rw[HWe.out];clear HWe
 go_region_held3 (fun W=>Below w.heap.size w W/\W.cell? ⟨w.heap.size,0,none⟩=some (.string x)/\W.cell? ⟨w.heap.size,1,none⟩=some (.slice a k cap)/\W.cell? ⟨w.heap.size,2,none⟩=some (.string y)) (first|exact HK0.out|exact HN.out _ _ (by assumption) (by assumption)|exact HN2.out _ _ _ _ (by assumption))
  (first
   |(go_at_call 92; refine (HCp.out _ (HB0.out _ HX.out).1 (HB0.out _ HX.out).2).mono ?_; rintro e w' ⟨u,rfl,hsl,hb'⟩; obtain⟨a',n',cap',rfl⟩:=hsl.slice; have HP:=zd hsl; clear hsl; replace HX:=zd (HX.out.trans (hb'.mono (HB0.out _ HX.out).2)); obtain⟨⟨g0,g1,g2⟩,g3,g4,g5⟩:=HQ.out _ HX.out)
   |(go_at_call_of 57 (Value.string x); refine (HCx.out _).mono ?_; rintro e w' ⟨rfl,hb'⟩; (try replace HP:=zd (zU (X9 hb') HP.out)); replace HX:=zd (HX.out.trans (hb'.mono (HB0.out _ HX.out).2)); obtain⟨⟨g0,g1,g2⟩,g3,g4,g5⟩:=HQ.out _ HX.out)
   |(go_at_call_of 57 (Value.string y); refine (HCy.out _).mono ?_; rintro e w' ⟨rfl,hb'⟩; (try replace HP:=zd (zU (X9 hb') HP.out)); replace HX:=zd (HX.out.trans (hb'.mono (HB0.out _ HX.out).2)); obtain⟨⟨g0,g1,g2⟩,g3,g4,g5⟩:=HQ.out _ HX.out))
 all_goals
  rename_i hHeld
  have HB:=zd hHeld.1;clear hHeld;go_wp2_with fail;exact bodyPost_ret (v:=.agg #[.string x,.slice a' n' cap',.string y]) (by simp[results,Tryz.results49,go_sem,g0,g1,g2]) rfl ⟨a',n',cap',rfl,HFin.out _ _ _ _ _ HP.out,HB.out⟩
theorem zcQ:(Tryz.prog.info? 76).map (fun i=>(i.zero,i.size,i.bytes))=some (some (.agg #[.string ⟨#[]⟩,.slice none 0 0,.string ⟨#[]⟩]),3,56):=by kernel_rfl
def SgP (B:Nat) (W:World) (g:Sg) (o:Nat):Prop:=ju (fun b=>B<b/\b<W.heap.size) W g B o
theorem ze5 (B:Nat):zaO B 3 (SgP B):=fun W W' x o ho hs h hp=>by
 obtain⟨⟨h0,z0⟩,⟨v,hv,hl⟩,h1,z1⟩:=hp;exact⟨⟨(h 0 (by omega)).trans h0,z0⟩,⟨v,(h 1 (by omega)).trans hv,zU ⟨fun b hb=>ho b (by have:=hb.1; omega) hb.2,fun b hb=>⟨hb.1,Nat.lt_of_lt_of_le hb.2 hs⟩⟩ hl⟩,(h 2 (by omega)).trans h1,z1⟩
theorem ze6 {S:Nat->Prop} {w:World} {g:Sg} {b o:Nat} (h:ju S w g b o):∃a n cap,w.cell? ⟨b,o,none⟩=some (.string g.name)/\w.cell? ⟨b,o+1,none⟩=some (.slice a n cap)/\w.cell? ⟨b,o+2,none⟩=some (.string g.result)/\(g.name.size<=maxLen/\g.result.size<=maxLen)/\qB S w g (.agg #[.string g.name,.slice a n cap,.string g.result]):=by
 obtain⟨⟨h0,z0⟩,⟨v,hv,hp⟩,h1,z1⟩:=h;obtain⟨a,cap,rfl⟩:=hp.is;exact⟨a,_,cap,h0,hv,h1,⟨z0,z1⟩,_,rfl,z0,z1,hp⟩
theorem zgx (S:Nat->Prop) (l:List Sg) (v:Value) (w:World) (hS:∀b,S b->b<w.heap.size) (hv:ze S (ju S w) 3 l v) (hz:l.length * 56<=reachBytes) (he:∀s∈l,Kc s) :
  Calls Tryz.prog 48 #[v,.func (.func 49) #[] #[]] w fun e w'=>∃u,e=.returned u/\ze (fun b=>w.heap.size<=b/\b<w'.heap.size) (ju (fun b=>w.heap.size<=b/\b<w'.heap.size) w') 3 l u/\Below w.heap.size w w':=by
 have hr:=reachBytes_lt;have HL:=zd (ze.len hv);have HV:=zd hv;obtain⟨a,cap,rfl⟩:=hv.is;have hlen:l.length<=9223372036854775807:=by have:=HL.out; unfold maxLen at this; omega
 obtain⟨arr,harr,hmk⟩:=QX Tryz.underlying24 zcQ l.length (by omega) HL.out;have HJ:Hid (RowJ w 76 3 (SgP w.heap.size) l 0 (w.alloc (.cells arr 76))):=RowJ.start harr;have HZ:=zd he;clear hv hz he harr;go_enter Tryz.func48,Tryz.ntmps48;go_wp2_with fail;clear hmk
 go_loopw [13] (fun i wr=>∃j:Nat,j<=l.length/\i=.int .i64 j/\RowJ w 76 3 (SgP w.heap.size) l j wr) (fun i _=>l.length - (intOf i).toNat)
 case atStart=>exact⟨0,Nat.zero_le _,rfl,HJ.out⟩
 case round=>
  obtain⟨j,hj,rfl,hrj⟩:=hrel;clear HJ
  by_cases hlt:j<l.length
  ·have hlt':(j:Int)<(l.length:Int):=by omega
   have hj0:(0:Int)<=(j:Int):=by omega
   obtain⟨_,b,off,rfl,hb,hat⟩:=HV.out.at hlt;have hbk:=hS b hb;obtain⟨p1,p2,p3,a0,a1,a2,⟨m0,m1⟩,hsg⟩:=ze6 hat;have d0:=(hrj.bel.cell (p:=⟨b,off+j * 3,none⟩) hbk).trans a0;have d1:=(hrj.bel.cell (p:=⟨b,off+j * 3+1,none⟩) hbk).trans a1;have d2:=(hrj.bel.cell (p:=⟨b,off+j * 3+2,none⟩) hbk).trans a2;have hsm:=HZ.out _ (List.getElem_mem hlt);have hrlt:=hrj.lt;have HC:Hid (∀W,Below wr.heap.size wr W->Calls Tryz.prog 49 #[.agg #[.string l[j].name,.slice p1 p2 p3,.string l[j].result]] W fun e w'=>∃a n cap,e=.returned (.agg #[.string l[j].name,.slice a n cap,.string l[j].result])/\ze (fun b=>w.heap.size<b/\b<w'.heap.size) (zG w') 1 l[j].params (.slice a n cap)/\Below wr.heap.size wr w'):=fun W hW=>by
    have hbW:=hrj.bel.trans (hW.mono hrj.bel.size);refine (YT S l[j] _ W (fun b hb=>Nat.lt_of_lt_of_le (hS b hb) hbW.size) (hsg.keep (Keeps.below hbW hS)) hsm).mono ?_;rintro e w' ⟨a,n,cap,rfl,h1,h2⟩;have:=hW.size;exact⟨a,n,cap,rfl,h1.imp (fun b hb=>⟨by omega,hb.2⟩) (fun _ _ _ _ _ h=>h),hW.trans (h2.mono hW.size)⟩
   have HN:Hid (∀W1 a n cap,Below wr.heap.size wr W1->ze (fun b=>w.heap.size<b/\b<W1.heap.size) (zG W1) 1 l[j].params (.slice a n cap)->RowJ w 76 3 (SgP w.heap.size) l (j+1) (((W1.setCell ⟨w.heap.size,j * 3,none⟩ (.string l[j].name)).setCell ⟨w.heap.size,j * 3+1,none⟩ (.slice a n cap)).setCell ⟨w.heap.size,j * 3+2,none⟩ (.string l[j].result))):=fun W1 a n cap h1 h2=>
    hrj.step (ze5 _) h1 hlt [.string l[j].name,.slice a n cap,.string l[j].result] rfl (fun hc ho hs=>⟨⟨hc 0 (by simp),m0⟩,⟨_,hc 1 (by simp),zU ⟨fun b hb=>ho b (by have:=hb.1; omega) hb.2,fun b hb=>⟨hb.1,by rw[hs]; exact hb.2⟩⟩ h2⟩,hc 2 (by simp),m1⟩)
   have HRm:Hid (∀W1,Below wr.heap.size wr W1->((∃u,W1.cell? ⟨w.heap.size,j * 3,none⟩=some u)/\W1.frozen? ⟨w.heap.size,j * 3,none⟩=false)/\((∃u,W1.cell? ⟨w.heap.size,j * 3+1,none⟩=some u)/\W1.frozen? ⟨w.heap.size,j * 3+1,none⟩=false)/\(∃u,W1.cell? ⟨w.heap.size,j * 3+2,none⟩=some u)/\W1.frozen? ⟨w.heap.size,j * 3+2,none⟩=false):=fun W1 h1=>
    ⟨hrj.room h1 hlt 0 (by omega),hrj.room h1 hlt 1 (by omega),hrj.room h1 hlt 2 (by omega)⟩
   have HA:Hid (∀o,Below wr.heap.size wr (wr.alloc o)):=fun o=>(Below.refl _ _).alloc (Nat.le_refl _) _
   have hbr:b<wr.heap.size:=Nat.lt_of_lt_of_le hbk hrj.bel.size;clear hrj a0 a1 a2 HV m0 m1 hsm hat hsg;generalize l[j].name=x at *;generalize l[j].result=y at *;generalize l[j].params=ps at *;go_wp2_with fail;refine (HC.out _ (HA.out _)).mono ?_;rintro e w' ⟨a',n',cap',rfl,hsl,hb'⟩;obtain⟨⟨⟨u,hu⟩,hfz⟩,⟨⟨u',hu'⟩,hfz'⟩,⟨u2,hu2⟩,hfz2⟩:=HRm.out _ hb';have HN':=zd (HN.out _ _ _ _ hb' hsl);clear hb' hsl;go_wp2_with fail;exact⟨⟨j+1,by omega,by go_num,HN'.out⟩,by simp[intOf]; omega⟩
  ·have hnl:¬(j:Int)<(l.length:Int):=by omega
   have hje:j=l.length:=by omega
   have HW:Hid (ze (fun b=>w.heap.size<=b/\b<wr.heap.size) (ju (fun b=>w.heap.size<=b/\b<wr.heap.size) wr) 3 l (.slice (some ⟨w.heap.size,0,none⟩) l.length l.length)):=by
    subst hje;refine hrj.whole HL.out (S:=fun b=>w.heap.size<=b/\b<wr.heap.size) ⟨Nat.le_refl _,hrj.lt⟩ (fun x o h=>?_);obtain⟨h0,⟨v,hv,hl⟩,h1⟩:=h;exact⟨h0,⟨v,hv,hl.imp (fun b hb=>⟨by have:=hb.1; omega,hb.2⟩) (fun _ _ _ _ _ h=>h)⟩,h1⟩
   have HB:=zd hrj.bel;clear hrj HV hje;go_wp2_with fail;go_ret;exact⟨_,rfl,HW.out,HB.out⟩
def Zw (w:World) (p q:Value) (W:World):Prop:=
 Below w.heap.size w W/\W.cell? ⟨w.heap.size,0,none⟩=some p/\W.cell? ⟨w.heap.size,1,none⟩=some q
theorem Zw.later {w:World} {p q:Value} {W W':World} (h:Zw w p q W) (hb:Below W.heap.size W W'):Zw w p q W':=by
 obtain⟨h0,h1,h2⟩:=h;exact⟨h0.trans (hb.mono h0.size),(hb.cell (World.block_lt_of_cell? _ _ h1)).trans h1,(hb.cell (World.block_lt_of_cell? _ _ h2)).trans h2⟩
theorem Zw.set {w:World} {p q:Value} {W:World} (h:Zw w p q W) (o:Nat) (u:Value):Zw w p q (W.setCell ⟨w.heap.size+1,o,none⟩ u):=by
 obtain⟨h0,h1,h2⟩:=h;refine⟨h0.setCell (by show w.heap.size<=w.heap.size+1; omega) _,?_,?_⟩
 ·rw[World.cell?_setCell_far _ _ _ _ (by show w.heap.size+1≠w.heap.size; omega)]; exact h1
 ·rw[World.cell?_setCell_far _ _ _ _ (by show w.heap.size+1≠w.heap.size; omega)]; exact h2
theorem KU (S:Nat->Prop) (f:Fc) (v:Value) (w:World) (hS:∀b,S b->b<w.heap.size) (hv:qC S w f v) (hz:zH f) :
  Calls Tryz.prog 16 #[v] w fun e w'=>∃a n cap a2 n2 cap2,e=.returned (.agg #[.slice a n cap,.slice a2 n2 cap2])/\Qs (fun b=>w.heap.size<=b/\b<w'.heap.size) w' f (.slice a n cap) (.slice a2 n2 cap2)/\Below w.heap.size w w':=by
 obtain⟨vt,vf,rfl,ht,hf⟩:=hv;obtain⟨⟨z0,z1⟩,z2,z3⟩:=hz;have HCt:Hid (∀W,Below w.heap.size w W->w.heap.size+2<=W.heap.size->Calls Tryz.prog 46 #[vt,.func (.func 47) #[] #[]] W fun e w'=>∃u,e=.returned u/\ze (fun b=>w.heap.size+2<=b/\b<w'.heap.size) (jp w') 2 f.types u/\Below W.heap.size W w'):=fun W hW h2=>by
  refine (zgw S _ _ W (fun b hb=>Nat.lt_of_lt_of_le (hS b hb) hW.size) (vj (Keeps.below hW hS) ht) z0 z1).mono ?_;rintro e w' ⟨u,rfl,h3,h4⟩;exact⟨u,rfl,h3.imp (fun b hb=>⟨by omega,hb.2⟩) (fun _ _ _ _ _ h=>h),h4⟩
 have HCf:Hid (∀W,Below w.heap.size w W->w.heap.size+2<=W.heap.size->Calls Tryz.prog 48 #[vf,.func (.func 49) #[] #[]] W fun e w'=>∃u,e=.returned u/\ze (fun b=>w.heap.size+2<=b/\b<w'.heap.size) (ju (fun b=>w.heap.size+2<=b/\b<w'.heap.size) w') 3 f.funcs u/\Below W.heap.size W w'):=fun W hW h2=>by
  refine (zgx S _ _ W (fun b hb=>Nat.lt_of_lt_of_le (hS b hb) hW.size) (yO (Keeps.below hW hS) hf) z2 z3).mono ?_;rintro e w' ⟨u,rfl,h3,h4⟩;exact⟨u,rfl,yO ⟨fun _ _=>rfl,fun b hb=>⟨by omega,hb.2⟩⟩ h3,h4⟩
 obtain⟨a,k,cap,rfl⟩:=ht.slice;obtain⟨a2,k2,cap2,rfl⟩:=hf.slice;obtain⟨w2,hwe,hs2,p0,p1,hbel,hq⟩:∃w2,(w.alloc (.cells #[.slice a k cap,.slice a2 k2 cap2] 26)).alloc (.cells #[.slice none 0 0,.slice none 0 0] 26)=w2/\w2.heap.size=w.heap.size+2/\
   w2.cell? ⟨w.heap.size,0,none⟩=some (.slice a k cap)/\w2.cell? ⟨w.heap.size,1,none⟩=some (.slice a2 k2 cap2)/\Below w.heap.size w w2/\
   (w2.cell? ⟨w.heap.size+1,0,none⟩=some (.slice none 0 0)/\w2.cell? ⟨w.heap.size+1,1,none⟩=some (.slice none 0 0))/\
   w2.frozen? ⟨w.heap.size+1,0,none⟩=false/\w2.frozen? ⟨w.heap.size+1,1,none⟩=false:=
  ⟨_,rfl,by simp,by simp[go_sem],by simp[go_sem],((Below.refl _ _).alloc (Nat.le_refl _) _).alloc (by simp) _,⟨by simp[go_sem],by simp[go_sem]⟩,by simp[go_sem],by simp[go_sem]⟩
 have HWe:=zd hwe;have HX:Hid (Below (w.heap.size+2) w2 w2.drew):=(Below.refl _ _).drew;have HBel:=zd hbel;have HB0:Hid (∀W,Below (w.heap.size+2) w2 W->Below w.heap.size w W/\w.heap.size+2<=W.heap.size):=fun W h=>⟨HBel.out.trans (h.mono (by omega)),by have:=h.size; omega⟩
 have HK0:Hid (Zw w (.slice a k cap) (.slice a2 k2 cap2) w2.drew):=⟨hbel.drew,p0,p1⟩
 have HN:Hid (∀W W',Zw w (.slice a k cap) (.slice a2 k2 cap2) W->Below W.heap.size W W'->Zw w (.slice a k cap) (.slice a2 k2 cap2) W'):=fun _ _ h hb=>h.later hb
 have HN2:Hid (∀W u v,Zw w (.slice a k cap) (.slice a2 k2 cap2) W->Zw w (.slice a k cap) (.slice a2 k2 cap2) ((W.setCell ⟨w.heap.size+1,0,none⟩ u).setCell ⟨w.heap.size+1,1,none⟩ v)):=fun _ u v h=>(h.set 0 u).set 1 v
 have HQ:Hid (∀W,Below (w.heap.size+2) w2 W->(W.cell? ⟨w.heap.size+1,0,none⟩=some (.slice none 0 0)/\W.cell? ⟨w.heap.size+1,1,none⟩=some (.slice none 0 0))/\W.frozen? ⟨w.heap.size+1,0,none⟩=false/\W.frozen? ⟨w.heap.size+1,1,none⟩=false):=fun W h=>by
  obtain⟨⟨q0,q1⟩,f0,f1⟩:=hq;exact⟨⟨(h.cell (by show w.heap.size+1<_; omega)).trans q0,(h.cell (by show w.heap.size+1<_; omega)).trans q1⟩,(h.frozen (by show w.heap.size+1<_; omega)).trans f0,(h.frozen (by show w.heap.size+1<_; omega)).trans f1⟩
 have HFin:Hid (∀(W:World) (p q u v:Value),ze (fun b=>w.heap.size+2<=b/\b<W.heap.size) (jp W) 2 f.types p->ze (fun b=>w.heap.size+2<=b/\b<W.heap.size) (ju (fun b=>w.heap.size+2<=b/\b<W.heap.size) W) 3 f.funcs q->Qs (fun b=>w.heap.size<=b/\b<((W.setCell ⟨w.heap.size+1,0,none⟩ u).setCell ⟨w.heap.size+1,1,none⟩ v).heap.size) ((W.setCell ⟨w.heap.size+1,0,none⟩ u).setCell ⟨w.heap.size+1,1,none⟩ v) f p q):=fun W p q u v h h'=>by
  have k1:=Za (B:=w.heap.size+2) (g:=w.heap.size+1) (W:=W) (by omega) 0 u;have k2:=Za (B:=w.heap.size+2) (g:=w.heap.size+1) (W:=W.setCell ⟨w.heap.size+1,0,none⟩ u) (by omega) 1 v;have k3:Keeps (fun b=>w.heap.size+2<=b/\b<((W.setCell ⟨w.heap.size+1,0,none⟩ u).setCell ⟨w.heap.size+1,1,none⟩ v).heap.size) (fun b=>w.heap.size<=b/\b<((W.setCell ⟨w.heap.size+1,0,none⟩ u).setCell ⟨w.heap.size+1,1,none⟩ v).heap.size) ((W.setCell ⟨w.heap.size+1,0,none⟩ u).setCell ⟨w.heap.size+1,1,none⟩ v) ((W.setCell ⟨w.heap.size+1,0,none⟩ u).setCell ⟨w.heap.size+1,1,none⟩ v):=⟨fun _ _=>rfl,fun b hb=>⟨by omega,hb.2⟩⟩
  exact⟨vj k3 (vj k2 (vj k1 h)),yO k3 (yO k2 (yO k1 h'))⟩
 clear ht hf z0 z1 z2 z3 hwe p0 p1 hbel hq;go_enter Tryz.func16,Tryz.ntmps16;go_wp2_with fail;rw[HWe.out];clear HWe
 go_region_held3 (fun W=>Below w.heap.size w W/\W.cell? ⟨w.heap.size,0,none⟩=some (.slice a k cap)/\W.cell? ⟨w.heap.size,1,none⟩=some (.slice a2 k2 cap2)) (first|exact HK0.out|exact HN.out _ _ (by assumption) (by assumption)|exact HN2.out _ _ _ (by assumption))
  (first
   |(go_at_call 46; refine (HCt.out _ (HB0.out _ HX.out).1 (HB0.out _ HX.out).2).mono ?_; rintro e w' ⟨u,rfl,hsl,hb'⟩; obtain⟨a',n',cap',rfl⟩:=hsl.slice; have HP:=zd hsl; clear hsl; (try replace HR:=zd (yO (X9 hb') HR.out)); replace HX:=zd (HX.out.trans (hb'.mono (HB0.out _ HX.out).2)); obtain⟨⟨g0,g1⟩,g2,g3⟩:=HQ.out _ HX.out)
   |(go_at_call 48; refine (HCf.out _ (HB0.out _ HX.out).1 (HB0.out _ HX.out).2).mono ?_; rintro e w' ⟨u,rfl,hsl,hb'⟩; obtain⟨a3,n3,cap3,rfl⟩:=hsl.slice; have HR:=zd hsl; clear hsl; (try replace HP:=zd (vj (X9 hb') HP.out)); replace HX:=zd (HX.out.trans (hb'.mono (HB0.out _ HX.out).2)); obtain⟨⟨g0,g1⟩,g2,g3⟩:=HQ.out _ HX.out))
 all_goals
  rename_i hHeld
  have HB:=zd hHeld.1;clear hHeld;go_wp2_with fail;exact bodyPost_ret (v:=.agg #[.slice a' n' cap',.slice a3 n3 cap3]) (by simp[results,Tryz.results16,go_sem,g0,g1]) rfl ⟨a',n',cap',a3,n3,cap3,rfl,HFin.out _ _ _ _ _ HP.out HR.out,HB.out⟩
theorem ku:∀{a b c:List UInt8},Op.bytesLess a b=false->Op.bytesLess b c=false->Op.bytesLess a c=false
 |[],[],_,_,h=>h
 |[],_::_,_,h,_=>by simp[Op.bytesLess] at h
 |_::_,_,[],_,_=>by simp[Op.bytesLess]
 |_::_,[],_::_,_,h=>by simp[Op.bytesLess] at h
 |x::xs,y::ys,z::zs,h1,h2=>by
  simp only[Op.bytesLess,Bool.or_eq_false_iff,decide_eq_false_iff_not,Bool.and_eq_false_iff,beq_eq_false_iff_ne] at *;obtain⟨h1,h1'⟩:=h1;obtain⟨h2,h2'⟩:=h2;have e1:¬x.toNat<y.toNat:=fun h=>h1 (UInt8.lt_iff_toNat_lt.2 h)
  have e2:¬y.toNat<z.toNat:=fun h=>h2 (UInt8.lt_iff_toNat_lt.2 h)
  refine⟨fun h=>by have:=UInt8.lt_iff_toNat_lt.1 h; omega,?_⟩
  by_cases hxz:x=z
  ·subst hxz
   have hxy:x=y:=UInt8.toNat_inj.1 (by omega);subst hxy;exact Or.inr (ku (h1'.resolve_left (fun h=>h rfl)) (h2'.resolve_left (fun h=>h rfl)))
  ·exact Or.inl hxz
theorem Kg:∀{a b:List UInt8},Op.bytesLess a b=false->Op.bytesLess b a=false->a=b
 |[],[],_,_=>rfl
 |[],_::_,h,_=>by simp[Op.bytesLess] at h
 |_::_,[],_,h=>by simp[Op.bytesLess] at h
 |x::xs,y::ys,h1,h2=>by
  simp only[Op.bytesLess,Bool.or_eq_false_iff,decide_eq_false_iff_not,Bool.and_eq_false_iff,beq_eq_false_iff_ne] at *;obtain⟨h1,h1'⟩:=h1;obtain⟨h2,h2'⟩:=h2;have e1:¬x.toNat<y.toNat:=fun h=>h1 (UInt8.lt_iff_toNat_lt.2 h)
  have e2:¬y.toNat<x.toNat:=fun h=>h2 (UInt8.lt_iff_toNat_lt.2 h)
  have hxy:x=y:=UInt8.toNat_inj.1 (by omega);subst hxy;rw[Kg (h1'.resolve_left (fun h=>h rfl)) (h2'.resolve_left (fun h=>h rfl))]
theorem Jg {a b c:ByteArray} (h1:gtB a b=true) (h2:gtB b c=true):gtB a c=true:=by
 unfold gtB at *;simp only[Bool.and_eq_true,Bool.not_eq_true',beq_eq_false_iff_ne] at *;refine⟨ku h1.1 h2.1,fun e=>?_⟩;rw[e] at h1;exact h1.2 (Kg h1.1 h2.1)
theorem zhc {a b:ByteArray} (h:gtB a b=true):sEq a b=false:=by
 unfold gtB at h;simp only[Bool.and_eq_true,Bool.not_eq_true'] at h;exact h.2
theorem YU {α:Type} {fault:α->Int} {name:α->ByteArray} (h7:∀x,fault x≠0->fault x≠0):∀{l:List α} {p:ByteArray},zw fault name l p=0->∀x∈l,gtB (name x) p=true/\fault x=0
 |[],_,_,_,h=>by cases h
 |y::r,p,h,x,hx=>by
  rw[zw] at h
  by_cases hf:fault y=0
  ·rw[if_pos hf] at h
   by_cases hg:gtB (name y) p=true
   ·rw[if_pos hg] at h
    rcases List.mem_cons.1 hx with rfl|hx
    ·exact⟨hg,hf⟩
    ·have:=YU h7 h x hx
     exact⟨Jg this.1 hg,this.2⟩
   ·rw[if_neg hg] at h
    exact absurd h (by decide)
  ·rw[if_neg hf] at h
   exact absurd h hf
theorem YV {a b:ByteArray} (h:sEq a b=true):a=b:=by
 unfold sEq at h;have h':=beq_iff_eq.1 h;rw[Lib.toList_data,Lib.toList_data] at h';exact Go.WideShapes.bytes_inj h'
theorem ze7 {l:List Im} (h:xE l=0):zw xZ Im.name l ⟨#[]⟩=0:=by
 unfold xE at h
 by_cases hl:24<(l.length:Int)
 ·rw[if_pos hl] at h; exact absurd h (by decide)
 ·rwa [if_neg hl] at h
theorem VE:zH ⟨[],[]⟩:=⟨⟨by simp,by simp⟩,by simp,by simp⟩
theorem Zx {u:List ByteArray} {l:List Im} (s:ByteArray) (h:∀i∈l,zH i.face):zH (zK u l s):=by
 unfold zK
 cases hl:l[vJ l s]? with
 |none=>exact VE
 |some i=>
  show zH (if (i.there&&qu u s)=true then i.face else ⟨[],[]⟩)
  by_cases hi:(i.there&&qu u s)=true
  ·rw[if_pos hi]; exact h i (List.mem_of_getElem? hl)
  ·rw[if_neg hi]; exact VE
end Go.Proofs.YtedpiamfpbdhoaaGreatDoor
