import Derived.Test.YtedpiamfpbdhoaaGreatDoorProg
import GoSem.PinnedTables
import GoSem.Claim
import GoSem.ClaimJoined
import GoSem.ClaimMapViews
import Derived.JoinedTies
import Derived.KernelRfl
import Derived.RowKit
import Derived.WalkKit
import Derived.WalkLawsBesides
import Derived.Shelf.Abstract
import Derived.Deep.RegionHeld3
import Derived.Deep.AppendLies
import Derived.Deep.MidRow
import Derived.Deep.Upon
import Derived.WalkSpells
import Derived.Lib.Bytealg
set_option maxHeartbeats 40000000
set_option maxRecDepth 100000
namespace Go.Proofs.YtedpiamfpbdhoaaGreatDoor
open Go.RowKit
theorem zd {p:Prop} (h:p):Hid p:=h
def xj (b:Int):Bool:=decide (97<=b)&&decide (b<=122)
def xt (b:Int):Bool:=decide (48<=b)&&decide (b<=57)
def qE (b:Int):Bool:=xj b||xt b
def QI (b:Int):Bool:=decide (32<=b)&&decide (b<=126)&&decide (b≠34)&&decide (b≠92)
def qj (n lo hi:Int):Bool:=decide (lo<=n)&&decide (n<=hi)
theorem jC (b:Int) (w:World):Calls Tryz.prog 221 #[.int .u8 b] w fun e w'=>e=.returned (.bool (xj b))/\w=w':=by
 by_cases h1:97<=b <;> by_cases h2:b<=122
 all_goals
  go_enter Tryz.func221,Tryz.ntmps221
  go_wp2
  all_goals first|(exfalso; omega)|(go_ret; exact⟨by simp[xj,h1,h2],rfl⟩)
theorem Qd (b:Int) (w:World):Calls Tryz.prog 234 #[.int .u8 b] w fun e w'=>e=.returned (.bool (xt b))/\w=w':=by
 by_cases h1:48<=b <;> by_cases h2:b<=57
 all_goals
  go_enter Tryz.func234,Tryz.ntmps234
  go_wp2
  all_goals first|(exfalso; omega)|(go_ret; exact⟨by simp[xt,h1,h2],rfl⟩)
theorem Kr (b:Int) (w:World):Calls Tryz.prog 160 #[.int .u8 b] w fun e w'=>e=.returned (.bool (b==32))/\w=w':=by
 go_enter Tryz.func160,Tryz.ntmps160
 go_wp2
 go_ret;exact⟨rfl,rfl⟩
theorem QJ (b:Int) (w:World):Calls Tryz.prog 223 #[.int .u8 b] w fun e w'=>e=.returned (.bool (qE b))/\w=w':=by
 by_cases h1:xj b=true
 ·go_enter Tryz.func223,Tryz.ntmps223
  go_wp2_with (go_at_call 221; refine (jC _ _).mono ?_; rintro e w' ⟨rfl,rfl⟩);go_ret;exact⟨by simp[qE,h1],rfl⟩
 ·have h1':xj b=false:=by simpa using h1
  go_enter Tryz.func223,Tryz.ntmps223;go_wp2_with (first|(go_at_call 221; refine (jC _ _).mono ?_; rintro e w' ⟨rfl,rfl⟩)|(go_at_call 234; refine (Qd _ _).mono ?_; rintro e w' ⟨rfl,rfl⟩));go_ret;exact⟨by simp[qE,h1'],rfl⟩
theorem zar (b:Int) (w:World):Calls Tryz.prog 286 #[.int .u8 b] w fun e w'=>e=.returned (.bool (QI b))/\w=w':=by
 by_cases h1:32<=b <;> by_cases h2:b<=126 <;> by_cases h3:b=34 <;> by_cases h4:b=92
 all_goals
  try subst h3
  try subst h4
  first
  |(exfalso; omega)
  |(go_enter Tryz.func286,Tryz.ntmps286
    go_wp2
    all_goals first|(exfalso; omega)|(go_ret; exact⟨by simp_all [QI],rfl⟩))
def zc7 (g:Nat) (lb:Array Value) (s:ByteArray) (p:Nat->Bool) (St:Nat->World->Prop) (a:Nat):Prop:=
 ∀(k:Nat) (h:k<s.size) (W:World),a<=k->(∀j,a<=j->j<k->p j=true)->St k W->Calls Tryz.prog g (#[.int .u8 ((s[k]'h).toNat:Int)]++lb) W fun e w'=>e=.returned (.bool (p k))/\St (k+1) w'
def XO (p:Nat->Bool) (n a k:Nat):Prop:=a<=k/\k<=n/\(∀j,a<=j->j<k->p j=true)/\(k<n->p k=false)
theorem zcA (g:Nat) (lb:Array Value) (eg:∀args w,(callFunc g args).run Tryz.prog w=.ok (.enter g args) w) (s:ByteArray) (hs:s.size<=maxLen) (p:Nat->Bool) (St:Nat->World->Prop)
  (B:Nat) (hSt:∀k W,St k W->W.cell? ⟨B,0,none⟩=some (.string s)) (a:Int) (hp:zc7 g lb s p St a.toNat) (h0:0<=a) (h1:a<=s.size) (w:World) (hw:St a.toNat w) :
  Calls Tryz.prog 231 #[.int .i64 a,.func (.func g) #[] lb,.pointer (some ⟨B,0,none⟩)] w fun e w'=>∃k:Nat,e=.returned (.int .i64 k)/\XO p s.size a.toNat k/\∃j,St j w':=by
 unfold maxLen at hs;obtain⟨a,rfl⟩:=Int.eq_ofNat_of_zero_le h0;rw[Int.toNat_natCast] at hw hp ⊢;have HP:Hid (zc7 g lb s p St a):=hp;clear hp;go_enter Tryz.func231,Tryz.ntmps231
 go_wp2
 go_loopw [6] (fun i wr=>∃k:Nat,a<=k/\k<=s.size/\i=.int .i64 k/\(∀j,a<=j->j<k->p j=true)/\St k wr) (fun i _=>s.size - (intOf i).toNat)
 case atStart=>exact⟨a,Nat.le_refl _,by omega,rfl,fun j h1 h2=>absurd h2 (by omega),hw⟩
 case round=>
  obtain⟨k,hk0,hk,rfl,hall,hst⟩:=hrel;have hc:=hSt k wr hst;clear hSt
  by_cases hlt:k<s.size
  ·have cS:=HP.out k hlt wr hk0 hall hst
   clear HP
   cases hpk:p k
   ·rw[hpk] at cS
    have HA:Hid (∀j,a<=j->j<k->p j=true):=hall;have HPK:Hid (p k=false):=hpk;clear hall hpk;go_wp2_with (go_at_fn g; refine cS.mono ?_; rintro e w' ⟨rfl,hst'⟩);go_ret;exact⟨k,rfl,⟨hk0,hk,HA.out,fun _=>HPK.out⟩,k+1,hst'⟩
   ·rw[hpk] at cS
    have HA:Hid (∀j,a<=j->j<k->p j=true):=hall;have HPK:Hid (p k=true):=hpk;clear hall hpk;go_wp2_with (go_at_fn g; refine cS.mono ?_; rintro e w' ⟨rfl,hst'⟩)
    go_roundw
    case rel=>exact⟨k+1,by omega,by omega,by go_num,fun j h1 h2=>by
     by_cases e:j=k
     ·rw[e]; exact HPK.out
     ·exact HA.out j h1 (by omega),hst'⟩
    case measure=>simp[intOf]; omega
  ·have HA:Hid (∀j,a<=j->j<k->p j=true):=hall
   clear hall HP
   go_wp2
   go_ret;exact⟨k,rfl,⟨hk0,hk,HA.out,fun h=>absurd h hlt⟩,k,hst⟩
theorem j3 (s:ByteArray) (w:World) :
  Calls Tryz.prog 159 #[.string s] w fun e w'=>e=.returned (.func (.func 231) #[] #[.pointer (some ⟨w.heap.size,0,none⟩)])/\w.alloc (.cells #[.string s] 9)=w':=by
 have hmf:∀(fn:Fn) (first cap:Array Value) (w:World),(Instr.makeFunc fn first cap).run Tryz.prog w=.ok (.func fn first cap) w:=fun _ _ _ _=>rfl
 go_enter Tryz.func159,Tryz.ntmps159
 go_wp2
 go_ret;exact⟨rfl,rfl⟩
def ZI (p:Nat->Bool) (n:Nat):Bool:=(List.range n).all p
theorem XP (p:Nat->Bool) (n:Nat):ZI p n=true↔∀j,j<n->p j=true:=by
 simp[ZI,List.all_eq_true,List.mem_range]
theorem zee {p:Nat->Bool} {n k:Nat} (h:XO p n 0 k):((k:Int)==(n:Int))=ZI p n:=by
 obtain⟨_,h2,h3,h4⟩:=h;rw[Bool.eq_iff_iff,XP,beq_iff_eq]
 constructor
 ·intro e j hj
  exact h3 j (Nat.zero_le _) (by omega)
 ·intro e
  by_cases hk:k<n
  ·have:=h4 hk
   rw[e k hk] at this
   cases this
  ·omega
def zz (s:ByteArray) (j:Nat):Int:=((s.data.toList.getD j 0).toNat:Int)
theorem kh (s:ByteArray) (k:Nat) (h:k<s.size):((s[k]'h).toNat:Int)=zz s k:=by
 unfold zz;have h':k<s.data.toList.length:=by simpa using h
 rw[List.getD_eq_getElem?_getD,List.getElem?_eq_getElem h']
 rfl
theorem zaQ (s:ByteArray) (k:Nat):0<=zz s k/\zz s k<=255:=by
 unfold zz;have:=(s.data.toList.getD k 0).toNat_lt;omega
theorem Ks (g:Nat) (lb:Array Value) (eg:∀args w,(callFunc g args).run Tryz.prog w=.ok (.enter g args) w) (s:ByteArray) (hs:s.size<=maxLen) (p:Nat->Bool) (St:Nat->World->Prop)
  (w:World) (hp:zc7 g lb s p St 0) (hSt:∀k W,St k W->W.cell? ⟨w.heap.size,0,none⟩=some (.string s)) (hw:St 0 (w.alloc (.cells #[.string s] 9))) :
  Calls Tryz.prog 222 #[.string s,.func (.func g) #[] lb] w fun e w'=>e=.returned (.bool (ZI p s.size))/\∃j,St j w':=by
 have hr:=zcA g lb eg s hs p St w.heap.size hSt 0 hp (by omega) (by omega) _ hw;clear hp hSt;unfold maxLen at hs;go_enter Tryz.func222,Tryz.ntmps222;go_wp2_with (go_at_call 159; refine (j3 _ _).mono ?_; rintro e w' ⟨rfl,rfl⟩);refine hr.mono ?_;rintro e w' ⟨k,rfl,hk,hj⟩;have hk':=zee hk;clear hr eg;have HK:Hid (((k:Int)==(s.size:Int))=ZI p s.size):=hk';clear hk' hk
 go_wp2
 go_ret;exact⟨by rw[HK.out]; rfl,hj⟩
theorem Jm (g:Nat) (eg:∀args w,(callFunc g args).run Tryz.prog w=.ok (.enter g args) w) (q:Int->Bool) (hq:∀(b:Int) (w:World),Calls Tryz.prog g #[.int .u8 b] w fun e w'=>e=.returned (.bool (q b))/\w=w')
  (s:ByteArray) (hs:s.size<=maxLen) (w:World) :
  Calls Tryz.prog 222 #[.string s,.func (.func g) #[] #[]] w fun e w'=>e=.returned (.bool (ZI (fun j=>q (zz s j)) s.size))/\w.alloc (.cells #[.string s] 9)=w':=by
 refine (Ks g #[] eg s hs (fun j=>q (zz s j)) (fun _ W=>w.alloc (.cells #[.string s] 9)=W) w ?_ ?_ rfl).mono ?_
 ·rintro k hk W _ _ rfl
  refine (hq _ _).mono ?_;rintro e w' ⟨rfl,rfl⟩;exact⟨by rw[kh],rfl⟩
 ·rintro k W rfl
  rw[World.cell?_alloc_at _ _ _ _ rfl]; rfl
 ·rintro e w' ⟨rfl,_,h⟩
  exact⟨rfl,h⟩
def vG (s:ByteArray):Bool:=qj s.size 1 8&&(xj (zz s 0)&&ZI (fun j=>qE (zz s j)) s.size)
theorem Ys (s:ByteArray) (h:¬(1<=s.size/\s.size<=8)):vG s=false:=by
 have:qj (s.size:Int) 1 8=false:=by simp[qj]; omega
 simp[vG,this]
theorem zaR (s:ByteArray) (hs:s.size<=maxLen) (w:World):Calls Tryz.prog 153 #[.string s] w fun e w'=>e=.returned (.bool (vG s))/\Below w.heap.size w w':=by
 have hmax:=hs;unfold maxLen at hs
 by_cases h0:s.size=0
 ·have hz:(((s.size:Nat):Int)==0)=true:=by simp[h0]
  have hf:=Ys s (by omega);have HF:Hid (vG s=false):=hf;clear hf h0;go_enter Tryz.func153,Tryz.ntmps153
  go_wp2
  go_ret;exact⟨by rw[HF.out]; rfl,Below.refl _ _⟩
 ·have hz:(((s.size:Nat):Int)==0)=false:=by simp[h0]
  by_cases h8:8<s.size
  ·have hf:=Ys s (by omega)
   have HF:Hid (vG s=false):=hf;have h8':(8:Int)<(s.size:Int):=by omega
   clear hf h0;go_enter Tryz.func153,Tryz.ntmps153
   go_wp2
   go_ret;exact⟨by rw[HF.out]; rfl,Below.refl _ _⟩
  ·have h8':¬(8:Int)<(s.size:Int):=by omega
   have hpos:0<s.size:=by omega
   have hin:qj (s.size:Int) 1 8=true:=by simp[qj]; omega
   have hb0:=kh s 0 hpos;have HB:Hid (((s[0]'hpos).toNat:Int)=zz s 0):=hb0;have HW:Hid (vG s=(xj (zz s 0)&&ZI (fun j=>qE (zz s j)) s.size)):=by show _=_; simp only[vG,hin,Bool.true_and]
   clear hb0 hin h0 h8
   cases hl:xj ((s[0]'hpos).toNat:Int)
   ·have HL:Hid (xj ((s[0]'hpos).toNat:Int)=false):=hl
    go_enter Tryz.func153,Tryz.ntmps153;go_wp2_with (go_at_call 221; refine (jC _ _).mono ?_; rintro e w' ⟨rfl,rfl⟩);go_ret;exact⟨by rw[HW.out,<- HB.out,HL.out]; rfl,Below.refl _ _⟩
   ·have HL:Hid (xj ((s[0]'hpos).toNat:Int)=true):=hl
    go_enter Tryz.func153,Tryz.ntmps153;go_wp2_with (first
     |(go_at_call 221; refine (jC _ _).mono ?_; rintro e w' ⟨rfl,rfl⟩)
     |(go_at_call 222; refine (Jm 223 (enters_of Tryz.func223 (by kernel_rfl) rfl) qE QJ s hmax _).mono ?_; rintro e w' ⟨rfl,rfl⟩))
    go_ret;exact⟨by rw[HW.out,<- HB.out,HL.out]; rfl,(Below.refl _ _).alloc (Nat.le_refl _) _⟩
def yk (s:ByteArray):Bool:=decide (s.size<=20)&&ZI (fun j=>QI (zz s j)) s.size
theorem zc8 (s:ByteArray) (h:¬s.size<=20):yk s=false:=by simp[yk,h]
theorem zbV (s:ByteArray) (h:s.size<=20):yk s=ZI (fun j=>QI (zz s j)) s.size:=by simp[yk,h]
theorem QK (s:ByteArray) (hs:s.size<=maxLen) (w:World):Calls Tryz.prog 236 #[.string s] w fun e w'=>e=.returned (.bool (yk s))/\Below w.heap.size w w':=by
 have hmax:=hs;unfold maxLen at hs
 by_cases h:s.size<=20
 ·have h':(s.size:Int)<=20:=by omega
  have HQ:=zd (zbV s h);clear h;go_enter Tryz.func236,Tryz.ntmps236;go_wp2_with (go_at_call 222; refine (Jm 286 (enters_of Tryz.func286 (by kernel_rfl) rfl) QI zar s hmax _).mono ?_; rintro e w' ⟨rfl,rfl⟩);go_ret;exact⟨by rw[HQ.out]; rfl,(Below.refl _ _).alloc (Nat.le_refl _) _⟩
 ·have h':¬(s.size:Int)<=20:=by omega
  have HQ:=zd (zc8 s h);clear h;go_enter Tryz.func236,Tryz.ntmps236
  go_wp2
  go_ret;exact⟨by rw[HQ.out]; rfl,Below.refl _ _⟩
inductive Ty where
 |mk (kind:Int) (of name:ByteArray) (args:List Ty)
inductive Ex where
 |mk (kind n:Int) (of s:ByteArray) (args:List Ex)
structure Fd where
 name:ByteArray
 is:Ty
structure Fu where
 name:ByteArray
 var:ByteArray
 params:List Fd
 result:Ty
 body:Ex
structure Mo where
 uses:List ByteArray
 types:List Fd
 funcs:List Fu
def kwB (s:ByteArray):Bool:=s.data.toList==[117,115,101]||(s.data.toList==[116,121,112,101]||(s.data.toList==[102,117,110,99]||(s.data.toList==[105,110,116]||s.data.toList==[116,101,120,116])))
def zf (s:ByteArray):Bool:=vG s&&!kwB s
def qv (s:ByteArray):Bool:=s.data.toList==[]
def zD (s:ByteArray):Bool:=qv s||zf s
def jc (k:Int) (o n:ByteArray) (c:Nat):Bool:=
 if k=3 then c==1&&(qv n&&qv o) else if k=4 then c==0&&(zf n&&zD o) else c==0&&(qv n&&qv o)
def zt {α:Type} (f:α->Int):List α->Int
 |[]=>0
 |t::r=>if f t=0 then zt f r else f t
mutual
def zl:Ty->Nat->Int
 |.mk k o n xs,d=>if 10<d then 1 else if qj k 1 4=false then 3 else if jc k o n xs.length=false then 4 else jm xs (d+1)
def jm:List Ty->Nat->Int
 |[],_=>0
 |t::r,d=>if zl t d=0 then jm r d else zl t d
end
theorem ZJ:∀(l:List Ty) (d:Nat),jm l d=zt (fun t=>zl t d) l
 |[],d=>by simp[jm,zt]
 |t::r,d=>by simp only[jm,zt,ZJ r d]
def xl (k:Int) (o s:ByteArray):Bool:=
 if k=2 then yk s&&qv o else if k=3 then zf s&&qv o else if k=4 then zf s&&zD o else qv s&&qv o
def qe (k:Int) (c:Nat):Bool:=
 if k=4 then true else if k=6 then decide (0<c) else if k=5\/k=7 then c==2 else c==0
mutual
def zx:Ex->Nat->Int
 |.mk k n o s xs,d=>if 10<d then 1 else if qj k 1 7=false then 3 else if 8<xs.length then 1 else if (n≠0/\k≠1)\/xl k o s=false\/qe k xs.length=false then 4 else if qj n 0 999999=false then 2 else xO xs (d+1)
def xO:List Ex->Nat->Int
 |[],_=>0
 |t::r,d=>if zx t d=0 then xO r d else zx t d
end
theorem ki:∀(l:List Ex) (d:Nat),xO l d=zt (fun t=>zx t d) l
 |[],d=>by simp[xO,zt]
 |t::r,d=>by simp only[xO,zt,ki r d]
def qx (s:ByteArray):Int:=if zf s=true then 0 else 4
def zF (f:Fd):Int:=if zf f.name=true then zl f.is 1 else 4
def xw (f:Fu):Int:=
 if zf f.name=false\/zD f.var=false then 4 else if 8<f.params.length then 1 else
 if zt zF f.params≠0 then zt zF f.params else if zl f.result 1≠0 then zl f.result 1 else zx f.body 1
def zI (m:Mo):Int:=
 if 24<wrap64 (wrap64 ((m.uses.length:Int)+m.types.length)+m.funcs.length) then 1 else
 if zt qx m.uses≠0 then zt qx m.uses else if zt zF m.types≠0 then zt zF m.types else zt xw m.funcs
theorem jn {α:Type} (f:α->Int):∀(l:List α) (k:Nat) (h:k<l.length),(∀j (hj:j<k),f (l[j]'(by omega))=0)->f l[k]≠0->zt f l=f l[k]
 |[],k,h,_,_=>absurd h (by simp)
 |t::r,0,_,_,h0=>by
  have h0':f t≠0:=by simpa using h0
  simp[zt,h0']
 |t::r,k+1,h,hj,h0=>by
  have ht:f t=0:=by simpa using hj 0 (by omega)
  have ih:=jn f r k (by simpa using h) (fun j hjk=>by simpa using hj (j+1) (by omega)) (by simpa using h0);simpa [zt,ht] using ih
theorem qW {α:Type} (f:α->Int):∀(l:List α),(∀j (hj:j<l.length),f l[j]=0)->zt f l=0
 |[],_=>rfl
 |t::r,h=>by
  have ht:f t=0:=h 0 (Nat.zero_lt_succ _);have ih:=qW f r (fun j hj=>h (j+1) (Nat.succ_lt_succ hj));simp[zt,ht,ih]
theorem qN {α:Type} (f:α->Int):∀(l:List α),zt f l=0->∀j (hj:j<l.length),f l[j]=0
 |[],_,j,hj=>absurd hj (by simp)
 |t::r,h,j,hj=>by
  by_cases ht:f t=0
  ·have h':zt f r=0:=by simpa [zt,ht] using h
   cases j with
   |zero=>simpa using ht
   |succ j=>simpa using qN f r h' j (by simpa using hj)
  ·simp only[zt,if_neg ht] at h
   exact absurd h ht
def qA {α:Type} (P:α->Nat->Nat->Prop) (c:Nat):List α->Nat->Nat->Prop
 |[],_,_=>True
 |t::r,b,o=>P t b o/\qA P c r b (o+c)
theorem qA.get {α:Type} {P:α->Nat->Nat->Prop} {c:Nat}:∀{l:List α} {b o:Nat},qA P c l b o->∀i (hi:i<l.length),P l[i] b (o+i * c)
 |[],b,o,_,i,hi=>absurd hi (by simp)
 |t::r,b,o,h,0,_=>by simpa using h.1
 |t::r,b,o,h,i+1,hi=>by
  have:=qA.get h.2 i (by simpa using hi);have e:o+(i+1) * c=o+c+i * c:=by rw[Nat.add_mul]; omega
  rw[e];simpa using this
theorem qA.mk {α:Type} {P:α->Nat->Nat->Prop} {c:Nat}:∀{l:List α} {b o:Nat},(∀i (hi:i<l.length),P l[i] b (o+i * c))->qA P c l b o
 |[],b,o,_=>trivial
 |t::r,b,o,h=>⟨by have:=h 0 (Nat.zero_lt_succ _); rw[Nat.zero_mul,Nat.add_zero] at this; exact this,qA.mk fun i hi=>by
  have:=h (i+1) (Nat.succ_lt_succ hi);have e:o+(i+1) * c=o+c+i * c:=by rw[Nat.add_mul]; omega
  rw[e] at this;exact this⟩
theorem qA.imp {α:Type} {P Q:α->Nat->Nat->Prop} {c:Nat} {l:List α} {b o:Nat} (h:qA P c l b o) (hpq:∀i (hi:i<l.length) o',P l[i] b o'->Q l[i] b o'):qA Q c l b o:=
 qA.mk fun i hi=>hpq i hi _ (h.get i hi)
def ze {α:Type} (S:Nat->Prop) (P:α->Nat->Nat->Prop) (c:Nat) (l:List α) (v:Value):Prop:=
 ∃a cap,v=.slice a l.length cap/\(l.length<=maxLen/\l.length<=cap)/\(l.length=0\/∃b o,a=some ⟨b,o,none⟩/\S b/\qA P c l b o)
mutual
def jD (S:Nat->Prop) (w:World):Ty->Nat->Nat->Prop
 |.mk k f n xs,b,o=>w.cell? ⟨b,o,none⟩=some (.int .i64 k)/\w.cell? ⟨b,o+1,none⟩=some (.string f)/\w.cell? ⟨b,o+2,none⟩=some (.string n)/\f.size<=maxLen/\n.size<=maxLen/\
   ∃v,w.cell? ⟨b,o+3,none⟩=some v/\∃a cap,v=.slice a xs.length cap/\(xs.length<=maxLen/\xs.length<=cap)/\(xs.length=0\/∃b' o',a=some ⟨b',o',none⟩/\S b'/\kP S w xs b' o')
def kP (S:Nat->Prop) (w:World):List Ty->Nat->Nat->Prop
 |[],_,_=>True
 |t::r,b,o=>jD S w t b o/\kP S w r b (o+4)
end
theorem Kt (S:Nat->Prop) (w:World):∀(l:List Ty) (b o:Nat),kP S w l b o↔qA (jD S w) 4 l b o
 |[],b,o=>by simp[kP,qA]
 |t::r,b,o=>by simp only[kP,qA,Kt S w r b (o+4)]
mutual
def yB (S:Nat->Prop) (w:World):Ex->Nat->Nat->Prop
 |.mk k n f s xs,b,o=>w.cell? ⟨b,o,none⟩=some (.int .i64 k)/\w.cell? ⟨b,o+1,none⟩=some (.int .i64 n)/\w.cell? ⟨b,o+2,none⟩=some (.string f)/\w.cell? ⟨b,o+3,none⟩=some (.string s)/\f.size<=maxLen/\s.size<=maxLen/\
   ∃v,w.cell? ⟨b,o+4,none⟩=some v/\∃a cap,v=.slice a xs.length cap/\(xs.length<=maxLen/\xs.length<=cap)/\(xs.length=0\/∃b' o',a=some ⟨b',o',none⟩/\S b'/\kQ S w xs b' o')
def kQ (S:Nat->Prop) (w:World):List Ex->Nat->Nat->Prop
 |[],_,_=>True
 |t::r,b,o=>yB S w t b o/\kQ S w r b (o+5)
end
theorem Ku (S:Nat->Prop) (w:World):∀(l:List Ex) (b o:Nat),kQ S w l b o↔qA (yB S w) 5 l b o
 |[],b,o=>by simp[kQ,qA]
 |t::r,b,o=>by simp only[kQ,qA,Ku S w r b (o+5)]
def zG (w:World) (s:ByteArray) (b o:Nat):Prop:=w.cell? ⟨b,o,none⟩=some (.string s)/\s.size<=maxLen
def qO (S:Nat->Prop) (w:World) (f:Fd) (b o:Nat):Prop:=zG w f.name b o/\jD S w f.is b (o+1)
def kG (S:Nat->Prop) (w:World) (f:Fu) (b o:Nat):Prop:=
 zG w f.name b o/\zG w f.var b (o+1)/\(∃v,w.cell? ⟨b,o+2,none⟩=some v/\ze S (qO S w) 5 f.params v)/\jD S w f.result b (o+3)/\yB S w f.body b (o+7)
def xJ (S:Nat->Prop) (w:World) (t:Ty) (k:Int) (f n:ByteArray) (va:Value):Prop:=∃xs,t=.mk k f n xs/\f.size<=maxLen/\n.size<=maxLen/\ze S (jD S w) 4 xs va
def xP (S:Nat->Prop) (w:World) (t:Ex) (k n:Int) (f s:ByteArray) (va:Value):Prop:=∃xs,t=.mk k n f s xs/\f.size<=maxLen/\s.size<=maxLen/\ze S (yB S w) 5 xs va
def vi (S:Nat->Prop) (w:World) (t:Ty) (v:Value):Prop:=∃k f n va,v=.agg #[.int .i64 k,.string f,.string n,va]/\xJ S w t k f n va
def yC (S:Nat->Prop) (w:World) (t:Ex) (v:Value):Prop:=∃k n f s va,v=.agg #[.int .i64 k,.int .i64 n,.string f,.string s,va]/\xP S w t k n f s va
def XQ (S:Nat->Prop) (w:World) (x:Fd) (v:Value):Prop:=∃k f n va,v=.agg #[.string x.name,.int .i64 k,.string f,.string n,va]/\x.name.size<=maxLen/\xJ S w x.is k f n va
def Xo (S:Nat->Prop) (w:World) (x:Fu) (v:Value):Prop:=∃vp k f n va k' n' f' s' va',v=.agg #[.string x.name,.string x.var,vp,.int .i64 k,.string f,.string n,va,.int .i64 k',.int .i64 n',.string f',.string s',va']/\x.name.size<=maxLen/\x.var.size<=maxLen/\
 ze S (qO S w) 5 x.params vp/\xJ S w x.result k f n va/\xP S w x.body k' n' f' s' va'
def qT (S:Nat->Prop) (w:World) (m:Mo) (v:Value):Prop:=∃vu vt vf,v=.agg #[vu,vt,vf]/\ze S (zG w) 1 m.uses vu/\ze S (qO S w) 5 m.types vt/\ze S (kG S w) 12 m.funcs vf
theorem qL {S:Nat->Prop} {w:World} {t:Ty} {b o:Nat}:jD S w t b o↔
  ∃k f n va,w.cell? ⟨b,o,none⟩=some (.int .i64 k)/\w.cell? ⟨b,o+1,none⟩=some (.string f)/\w.cell? ⟨b,o+2,none⟩=some (.string n)/\w.cell? ⟨b,o+3,none⟩=some va/\xJ S w t k f n va:=by
 cases t with
 |mk k f n xs=>
  simp only[jD,xJ,ze,Kt]
  constructor
  ·rintro ⟨h0,h1,h2,h3,h4,v,h5,h6⟩
   exact⟨k,f,n,v,h0,h1,h2,h5,xs,rfl,h3,h4,h6⟩
  ·rintro ⟨k',f',n',v,h0,h1,h2,h5,xs',e,h3,h4,h6⟩
   cases e
   exact⟨h0,h1,h2,h3,h4,v,h5,h6⟩
theorem qU {S:Nat->Prop} {w:World} {t:Ex} {b o:Nat}:yB S w t b o↔
  ∃k n f s va,w.cell? ⟨b,o,none⟩=some (.int .i64 k)/\w.cell? ⟨b,o+1,none⟩=some (.int .i64 n)/\w.cell? ⟨b,o+2,none⟩=some (.string f)/\w.cell? ⟨b,o+3,none⟩=some (.string s)/\w.cell? ⟨b,o+4,none⟩=some va/\xP S w t k n f s va:=by
 cases t with
 |mk k n f s xs=>
  simp only[yB,xP,ze,Ku]
  constructor
  ·rintro ⟨h0,h1,h2,h2',h3,h4,v,h5,h6⟩
   exact⟨k,n,f,s,v,h0,h1,h2,h2',h5,xs,rfl,h3,h4,h6⟩
  ·rintro ⟨k',n',f',s',v,h0,h1,h2,h2',h5,xs',e,h3,h4,h6⟩
   cases e
   exact⟨h0,h1,h2,h2',h3,h4,v,h5,h6⟩
structure Keeps (S S':Nat->Prop) (w w':World):Prop where
 blocks:∀b,S b->w'.heap[b]? = w.heap[b]?
 sub:∀b,S b->S' b
theorem ze.imp {α:Type} {S S':Nat->Prop} (hs:∀b,S b->S' b) {P Q:α->Nat->Nat->Prop} {c:Nat} {l:List α} {v:Value} (h:ze S P c l v) (hpq:∀t∈l,∀b o,S b->P t b o->Q t b o):ze S' Q c l v:=by
 obtain⟨a,cap,rfl,hl,h⟩:=h;refine⟨a,cap,rfl,hl,h.imp_right ?_⟩;rintro ⟨b,o,rfl,hb,hr⟩;exact⟨b,o,rfl,hs b hb,hr.imp fun i hi o'=>hpq _ (List.getElem_mem hi) b o' hb⟩
theorem Keeps.cell {S S':Nat->Prop} {w w':World} (hk:Keeps S S' w w') {b o:Nat} (hb:S b):w'.cell? ⟨b,o,none⟩=w.cell? ⟨b,o,none⟩:=World.cell?_of_block (hk.blocks b hb)
mutual
theorem jD.keep {S S':Nat->Prop} {w w':World} (hk:Keeps S S' w w'):∀{t:Ty} {b o:Nat},S b->jD S w t b o->jD S' w' t b o
 |.mk k f n xs,b,o,hb,h=>by
  rw[jD] at h ⊢;obtain⟨c0,c1,c2,s0,s1,v,c3,a,cap,rfl,hl,hr⟩:=h;rw[hk.cell hb,hk.cell hb,hk.cell hb,hk.cell hb];refine⟨c0,c1,c2,s0,s1,_,c3,a,cap,rfl,hl,?_⟩
  rcases hr with hr|⟨b',o',ha,hb',hr⟩
  ·exact Or.inl hr
  ·exact Or.inr ⟨b',o',ha,hk.sub _ hb',kP.keep hk hb' hr⟩
theorem kP.keep {S S':Nat->Prop} {w w':World} (hk:Keeps S S' w w'):∀{l:List Ty} {b o:Nat},S b->kP S w l b o->kP S' w' l b o
 |[],_,_,_,_=>by rw[kP]; trivial
 |t::r,b,o,hb,h=>by
  rw[kP] at h ⊢;exact⟨jD.keep hk hb h.1,kP.keep hk hb h.2⟩
end
mutual
theorem yB.keep {S S':Nat->Prop} {w w':World} (hk:Keeps S S' w w'):∀{t:Ex} {b o:Nat},S b->yB S w t b o->yB S' w' t b o
 |.mk k n f s xs,b,o,hb,h=>by
  rw[yB] at h ⊢;obtain⟨c0,c1,c2,c3,s0,s1,v,c4,a,cap,rfl,hl,hr⟩:=h;rw[hk.cell hb,hk.cell hb,hk.cell hb,hk.cell hb,hk.cell hb];refine⟨c0,c1,c2,c3,s0,s1,_,c4,a,cap,rfl,hl,?_⟩
  rcases hr with hr|⟨b',o',ha,hb',hr⟩
  ·exact Or.inl hr
  ·exact Or.inr ⟨b',o',ha,hk.sub _ hb',kQ.keep hk hb' hr⟩
theorem kQ.keep {S S':Nat->Prop} {w w':World} (hk:Keeps S S' w w'):∀{l:List Ex} {b o:Nat},S b->kQ S w l b o->kQ S' w' l b o
 |[],_,_,_,_=>by rw[kQ]; trivial
 |t::r,b,o,hb,h=>by
  rw[kQ] at h ⊢;exact⟨yB.keep hk hb h.1,kQ.keep hk hb h.2⟩
end
theorem zG.keep {S S':Nat->Prop} {w w':World} (hk:Keeps S S' w w') {s:ByteArray} {b o:Nat} (hb:S b) (h:zG w s b o):zG w' s b o:=by
 unfold zG at h ⊢
 rwa [hk.cell hb]
theorem qO.keep {S S':Nat->Prop} {w w':World} (hk:Keeps S S' w w') {f:Fd} {b o:Nat} (hb:S b) (h:qO S w f b o):qO S' w' f b o:=⟨zG.keep hk hb h.1,jD.keep hk hb h.2⟩
theorem Kv {S S':Nat->Prop} {w w':World} (hk:Keeps S S' w w') {l:List Ty} {v:Value} (h:ze S (jD S w) 4 l v):ze S' (jD S' w') 4 l v:=h.imp hk.sub fun _ _ _ _ hb' h=>jD.keep hk hb' h
theorem jA {S S':Nat->Prop} {w w':World} (hk:Keeps S S' w w') {l:List Ex} {v:Value} (h:ze S (yB S w) 5 l v):ze S' (yB S' w') 5 l v:=h.imp hk.sub fun _ _ _ _ hb' h=>yB.keep hk hb' h
theorem zP {S S':Nat->Prop} {w w':World} (hk:Keeps S S' w w') {l:List Fd} {v:Value} (h:ze S (qO S w) 5 l v):ze S' (qO S' w') 5 l v:=h.imp hk.sub fun _ _ _ _ hb' h=>qO.keep hk hb' h
theorem zU {S S':Nat->Prop} {w w':World} (hk:Keeps S S' w w') {l:List ByteArray} {v:Value} (h:ze S (zG w) 1 l v):ze S' (zG w') 1 l v:=h.imp hk.sub fun _ _ _ _ hb' h=>zG.keep hk hb' h
theorem kG.keep {S S':Nat->Prop} {w w':World} (hk:Keeps S S' w w') {f:Fu} {b o:Nat} (hb:S b) (h:kG S w f b o):kG S' w' f b o:=by
 obtain⟨h0,h1,⟨v,hv,hp⟩,h2,h3⟩:=h;exact⟨zG.keep hk hb h0,zG.keep hk hb h1,⟨v,by rwa [hk.cell hb],zP hk hp⟩,jD.keep hk hb h2,yB.keep hk hb h3⟩
theorem Q8 {S S':Nat->Prop} {w w':World} (hk:Keeps S S' w w') {l:List Fu} {v:Value} (h:ze S (kG S w) 12 l v):ze S' (kG S' w') 12 l v:=h.imp hk.sub fun _ _ _ _ hb' h=>kG.keep hk hb' h
theorem xJ.keep {S S':Nat->Prop} {w w':World} (hk:Keeps S S' w w') {t:Ty} {k:Int} {f n:ByteArray} {v:Value} (h:xJ S w t k f n v):xJ S' w' t k f n v:=by
 obtain⟨xs,rfl,h1,h2,h3⟩:=h;exact⟨xs,rfl,h1,h2,Kv hk h3⟩
theorem xP.keep {S S':Nat->Prop} {w w':World} (hk:Keeps S S' w w') {t:Ex} {k n:Int} {f s:ByteArray} {v:Value} (h:xP S w t k n f s v):xP S' w' t k n f s v:=by
 obtain⟨xs,rfl,h1,h2,h3⟩:=h;exact⟨xs,rfl,h1,h2,jA hk h3⟩
theorem vi.keep {S S':Nat->Prop} {w w':World} (hk:Keeps S S' w w') {t:Ty} {v:Value} (h:vi S w t v):vi S' w' t v:=by
 obtain⟨k,f,n,va,rfl,h1⟩:=h;exact⟨k,f,n,va,rfl,h1.keep hk⟩
theorem yC.keep {S S':Nat->Prop} {w w':World} (hk:Keeps S S' w w') {t:Ex} {v:Value} (h:yC S w t v):yC S' w' t v:=by
 obtain⟨k,n,f,s,va,rfl,h1⟩:=h;exact⟨k,n,f,s,va,rfl,h1.keep hk⟩
theorem XQ.keep {S S':Nat->Prop} {w w':World} (hk:Keeps S S' w w') {x:Fd} {v:Value} (h:XQ S w x v):XQ S' w' x v:=by
 obtain⟨k,f,n,va,rfl,h1,h2⟩:=h;exact⟨k,f,n,va,rfl,h1,h2.keep hk⟩
theorem Xo.keep {S S':Nat->Prop} {w w':World} (hk:Keeps S S' w w') {x:Fu} {v:Value} (h:Xo S w x v):Xo S' w' x v:=by
 obtain⟨vp,k,f,n,va,k',n',f',s',va',rfl,h1,h2,h3,h4,h5⟩:=h;exact⟨vp,k,f,n,va,k',n',f',s',va',rfl,h1,h2,zP hk h3,h4.keep hk,h5.keep hk⟩
theorem qT.keep {S S':Nat->Prop} {w w':World} (hk:Keeps S S' w w') {m:Mo} {v:Value} (h:qT S w m v):qT S' w' m v:=by
 obtain⟨vu,vt,vf,rfl,h1,h2,h3⟩:=h;exact⟨vu,vt,vf,rfl,zU hk h1,zP hk h2,Q8 hk h3⟩
theorem ze.slice {α:Type} {S:Nat->Prop} {P:α->Nat->Nat->Prop} {c:Nat} {l:List α} {v:Value} (h:ze S P c l v):∃a n cap,v=.slice a n cap:=by
 obtain⟨a,cap,rfl,_⟩:=h;exact⟨a,_,cap,rfl⟩
theorem xJ.slice {S:Nat->Prop} {w:World} {t:Ty} {k:Int} {f n:ByteArray} {v:Value} (h:xJ S w t k f n v):∃a n cap,v=.slice a n cap:=by
 obtain⟨xs,rfl,_,_,h3⟩:=h;exact h3.slice
theorem xP.slice {S:Nat->Prop} {w:World} {t:Ex} {k n:Int} {f s:ByteArray} {v:Value} (h:xP S w t k n f s v):∃a n cap,v=.slice a n cap:=by
 obtain⟨xs,rfl,_,_,h3⟩:=h;exact h3.slice
theorem Keeps.below {S:Nat->Prop} {w w':World} {B:Nat} (h:Below B w w') (hS:∀b,S b->b<B):Keeps S S w w':=⟨fun b hb=>h.block b (hS b hb),fun _ h=>h⟩
theorem zcB:(Tryz.prog.info? 70).map (fun i=>(i.zero,i.size,i.bytes))=some (some (.agg #[.int .i64 0,.int .i64 0,.string ⟨#[]⟩,.string ⟨#[]⟩,.slice none 0 0]),5,72):=by kernel_rfl
theorem zk {w:World} {base:Nat} {e:TypeId} {size:Nat} {v:Value} {n:Nat} {xs:List Value} (h:w.ownsRow base e size v n xs):∀j,v.ownBlock=some j->base<=j/\j<w.heap.size:=by
 intro j hj
 rcases h.2 with ⟨rfl,_⟩|⟨g,cap,cur,rfl,hb,hg,_⟩
 ·cases hj
 ·have:g=j:=by simpa [Value.ownBlock] using hj
  subst this;refine⟨hb,?_⟩
  rcases Nat.lt_or_ge g w.heap.size with h1|h1
  ·exact h1
  ·rw[Array.getElem?_eq_none h1] at hg; cases hg
theorem XR {w:World} {base:Nat} {e:TypeId} {size g n cap:Nat} {xs:List Value} (h:w.ownsRow base e size (.slice (some ⟨g,0,none⟩) n cap) n xs):∀o,w.frozen? ⟨g,o,none⟩=false:=by
 intro o
 rcases h.2 with ⟨h1,_⟩|⟨g',cap',cur,h1,hb,hg,_⟩
 ·cases h1
 ·cases h1
  exact Lib.frozen_of_heap hg o
theorem kW {w:World} {base:Nat} {e:TypeId} {size g n cap:Nat} {xs:List Value} (h:w.ownsRow base e size (.slice (some ⟨g,0,none⟩) n cap) n xs) (j:Nat) (u:Value) (hu:xs[j]? = some u):w.cell? ⟨g,j,none⟩=some u:=by
 rcases h with ⟨hl,⟨h1,_⟩|⟨g',cap',cur,h1,hb,hg,_,_,hc,ht⟩⟩
 ·cases h1
 ·cases h1
  rw[cell_of_row w g j cur e _ hg];rw[<- ht,List.getElem?_take] at hu
  split at hu
  ·simpa using hu
  ·cases hu
def vY (cur:Array Value) (o:Nat):List Value->Array Value
 |[]=>cur
 |v::r=>vY (cur.setIfInBounds o v) (o+1) r
theorem Yt:∀(vs:List Value) (cur:Array Value) (o:Nat),(vY cur o vs).size=cur.size
 |[],_,_=>rfl
 |v::r,cur,o=>by rw[vY,Yt r]; simp
theorem Yu:∀(vs:List Value) (cur:Array Value) (o:Nat),o+vs.length<=cur.size->(vY cur o vs).toList.take (o+vs.length)=cur.toList.take o++vs
 |[],cur,o,_=>by simp[vY]
 |v::r,cur,o,h=>by
  simp only[List.length_cons] at h;have ih:=Yu r (cur.setIfInBounds o v) (o+1) (by simp; omega);rw[vY,List.length_cons,show o+(r.length+1)=o+1+r.length by omega,ih];have ho:o<cur.toList.length:=by simp; omega
  have:(cur.setIfInBounds o v).toList.take (o+1)=cur.toList.take o++[v]:=by
   rw[Array.toList_setIfInBounds,List.take_set,List.take_add_one,List.getElem?_eq_getElem ho];have hl:(cur.toList.take o).length=o:=by rw[List.length_take]; omega
   rw[List.set_append_right _ _ (by rw[hl]; exact Nat.le_refl _),hl,Nat.sub_self];simp
  rw[this];simp
theorem vM {w:World} {g:Nat} {cur:Array Value} {e:TypeId} (h:w.heap[g]? = some (.cells cur e (0,0))) (o:Nat) (u:Value) :
  (w.setCell ⟨g,o,none⟩ u).heap[g]? = some (.cells (cur.setIfInBounds o u) e (0,0)):=by
 simp[World.setCell,Array.getElem?_modify,h]
theorem Zl {g:Nat} {e:TypeId}:∀(vs:List Value) {w:World} {cur:Array Value} (_:w.heap[g]? = some (.cells cur e (0,0))) (o:Nat),(w.setCells g o vs).heap[g]? = some (.cells (vY cur o vs) e (0,0))
 |[],_,_,h,_=>h
 |v::r,w,cur,h,o=>by
  rw[World.setCells,vY];exact Zl r (vM h o v) (o+1)
theorem J0 {w:World} {base:Nat} {e:TypeId} {g m cap:Nat} {xs old new:List Value} (h:w.ownsRow base e 5 (.slice (some ⟨g,0,none⟩) (m+1) cap) (m+1) (xs++old)) (ho:old.length=5) (hn:new.length=5) :
  (w.setCells g (m * 5) new).ownsRow base e 5 (.slice (some ⟨g,0,none⟩) (m+1) cap) (m+1) (xs++new):=by
 obtain⟨hl,⟨h1,_⟩|⟨g',cap',cur,h1,hb,hg,hc,hm,hs,ht⟩⟩:=h
 ·cases h1
 ·cases h1
  have hx:xs.length=m * 5:=by simp only[List.length_append,ho] at hl; omega
  refine⟨by simp only[List.length_append,hn,hx]; omega,Or.inr ⟨g,cap,vY cur (m * 5) new,rfl,hb,Zl new hg _,hc,hm,by rw[Yt,hs],?_⟩⟩;have e1:(m+1) * 5=m * 5+new.length:=by rw[hn]; omega
  have hle:m * 5+new.length<=cur.size:=by
   rw[hs,hn];have:=Nat.mul_le_mul_right 5 hc;omega
  rw[e1,Yu new cur _ hle]
  congr 1
  have:=congrArg (List.take (m * 5)) ht;rw[List.take_take,Nat.min_eq_left (by omega),List.take_append_of_le_length (by omega)] at this;rw[this,List.take_of_length_le (by omega)]
theorem Q9 {w:World} {base:Nat} {e:TypeId} {g m cap:Nat} {xs:List Value} (h:w.ownsRow base e 5 (.slice (some ⟨g,0,none⟩) (m+1) cap) (m+1) xs):w.there g (m * 5) 5:=by
 intro j hj;have hl:=h.1;refine⟨?_,XR h _⟩;rw[kW h (m * 5+j) _ (List.getElem?_eq_getElem (by omega))]
 rfl
structure Grew (base bl:Nat) (T Tl:TypeId) (v v':Value) (n:Nat) (ys:List Value) (W W':World):Prop where
 os:W'.os=W.os
 tape:W'.tape=W.tape
 output:W'.output=W.output
 size:W.heap.size<=W'.heap.size
 box:W'.heap[bl]? = some (.cells #[v'] Tl (0,0))
 own:W'.ownsRow base T 5 v' n ys
 rest:∀k,k<W.heap.size->k≠bl->some k≠v.ownBlock->W'.heap[k]? = W.heap[k]?
 row:∀k,v'.ownBlock=some k->v.ownBlock=some k\/W.heap.size<=k
theorem zT (w:World) (a:Addr) (u:Value):(w.setCell a u).heap.size=w.heap.size:=by simp[World.setCell]
theorem yl (g:Nat):∀(vs:List Value) (o:Nat) (w:World),(w.setCells g o vs).heap.size=w.heap.size
 |[],_,_=>rfl
 |v::r,o,w=>by rw[World.setCells,yl g r]; exact zT _ _ _
theorem vZ (g:Nat):∀(vs:List Value) (o:Nat) (w:World),(w.setCells g o vs).tape=w.tape
 |[],_,_=>rfl
 |v::r,o,w=>by rw[World.setCells,vZ g r]; rfl
theorem Zm {base bl:Nat} {T Tl:TypeId} {v:Value} {n g cap:Nat} {ys:List Value} {W W0 w1:World} (hbl:bl<base) (hb:base<=W.heap.size)
  (h0:W.heap.size<=W0.heap.size) (hos:W0.os=W.os) (htape:W0.tape=W.tape) (hout:W0.output=W.output) (hk:∀k,k<W.heap.size->W0.heap[k]? = W.heap[k]?)
  (hg:W0.grownBy w1 v.ownBlock) (hbox:W.heap[bl]? = some (.cells #[v] Tl (0,0))) (hbv:some bl≠v.ownBlock) (hown:w1.ownsRow base T 5 (.slice (some ⟨g,0,none⟩) n cap) n ys) (hat:v.ownBlock=some g\/W.heap.size<=g) :
  Grew base bl T Tl v (.slice (some ⟨g,0,none⟩) n cap) n ys W (w1.setCell ⟨bl,0,none⟩ (.slice (some ⟨g,0,none⟩) n cap)):=by
 have hblW:bl<W.heap.size:=by omega
 have hb1:w1.heap[bl]? = some (.cells #[v] Tl (0,0)):=(hg.block bl (by omega) hbv).trans ((hk bl hblW).trans hbox);refine⟨hg.os.trans hos,hg.tape.trans htape,hg.output.trans hout,?_,?_,?_,?_,?_⟩
 ·rw[zT]; exact Nat.le_trans h0 hg.size
 ·rw[vM hb1]; rfl
 ·exact ownsRow_setCell_below hown (a:=⟨bl,0,none⟩) hbl _
 ·intro k hk' hne hrow
  rw[Below.heap_setCell _ _ _ _ (by show k≠bl; exact hne),hg.block k (by omega) hrow,hk k hk']
 ·intro k hk'
  have:g=k:=by simpa [Value.ownBlock] using hk'
  subst this;exact hat
theorem Grew.put {base bl:Nat} {T Tl:TypeId} {v:Value} {m g cap:Nat} {xs old new:List Value} {W W':World} (h:Grew base bl T Tl v (.slice (some ⟨g,0,none⟩) (m+1) cap) (m+1) (xs++old) W W') (hbl:bl<base) (ho:old.length=5) (hn:new.length=5) :
  Grew base bl T Tl v (.slice (some ⟨g,0,none⟩) (m+1) cap) (m+1) (xs++new) W (W'.setCells g (m * 5) new):=by
 have hg:=zk h.own g rfl;have hrow:=h.row g rfl;refine⟨(World.os_setCells _ _ _ _).trans h.os,(vZ _ _ _ _).trans h.tape,(World.output_setCells _ _ _ _).trans h.output,by rw[yl]; exact h.size,?_,J0 h.own ho hn,?_,h.row⟩
 ·rw[World.heap_setCells_other _ _ _ _ (by have:=World.block_lt_of_cell? W' ⟨bl,0,none⟩ (cell_of_row W' bl 0 _ _ _ h.box); exact this) (by omega)]
  exact h.box
 ·intro k hk hne hr
  rw[World.heap_setCells_other _ _ _ _ (by have:=h.size; omega) (by rintro rfl; rcases hrow with h1|h1; exact hr h1.symm; omega)];exact h.rest k hk hne hr
theorem Vx {W0 w1:World} {row:Option Nat} {g:Nat} (h:W0.grownBy w1 row) (hat:row=some g\/W0.heap.size<=g) (hg:g<w1.heap.size) (o:Nat) (new:List Value):W0.grownBy (w1.setCells g o new) row:=
 ⟨(World.os_setCells _ _ _ _).trans h.os,(vZ _ _ _ _).trans h.tape,(World.output_setCells _ _ _ _).trans h.output,by rw[yl]; exact h.size,fun k hk hr=>by
  rw[World.heap_setCells_other _ _ _ _ (by have:=h.size; omega) (by rintro rfl; rcases hat with h1|h1; exact hr h1.symm; omega)];exact h.block k hk hr⟩
def Zn (R:Act->World->Prop):Exit->Act->World->Prop
 |.normal,a,w=>R a w
 |_,_,_=>False
section
variable {P:Program} {md:Region.Mode} {ops:Array Oper} {Q:Exit->Act->World->Prop} {S:World->Prop}
theorem zg {fuel:Nat} {listed:Array Bool} {a:Act} {w:World} (i:Nat) {o:Oper} (hr:Region.ready md ops listed=[i]) (hi:ops.toList[i]? = some o) (hg:o.guard=none)
  (h:∀K:Act->World->Prop,(∀a' w',S w'->wpAnyH P md ops Q S fuel (listed.setIfInBounds i true) a' w'->K a' w')->Oper.wp P o a w K Q):wpAnyH P md ops Q S (fuel+1) listed a w:=
 wpAnyH_ready hr (by simp) (AllReadyH.cons (by simpa using hi) (fun K hK=>by
  rw[if_pos (by simp[Region.wanted,hg])];exact h K (fun a' w' hS hW=>hK.out a' w' hS (fun _=>hW))) AllReadyH.nil)
theorem xz {fuel:Nat} {listed:Array Bool} {a:Act} {w:World} (i j:Nat) {o p:Oper} (hr:Region.ready md ops listed=[i,j]) (hi:ops.toList[i]? = some o) (hj:ops.toList[j]? = some p) (hg:o.guard=none) (hp:p.guard=none)
  (h:∀K:Act->World->Prop,(∀a' w',S w'->wpAnyH P md ops Q S fuel (listed.setIfInBounds i true) a' w'->K a' w')->Oper.wp P o a w K Q)
  (h':∀K:Act->World->Prop,(∀a' w',S w'->wpAnyH P md ops Q S fuel (listed.setIfInBounds j true) a' w'->K a' w')->Oper.wp P p a w K Q):wpAnyH P md ops Q S (fuel+1) listed a w:=
 wpAnyH_ready hr (by simp) (AllReadyH.cons (by simpa using hi) (fun K hK=>by
  rw[if_pos (by simp[Region.wanted,hg])];exact h K (fun a' w' hS hW=>hK.out a' w' hS (fun _=>hW))) (AllReadyH.cons (by simpa using hj) (fun K hK=>by
  rw[if_pos (by simp[Region.wanted,hp])];exact h' K (fun a' w' hS hW=>hK.out a' w' hS (fun _=>hW))) AllReadyH.nil))
theorem zh {fuel:Nat} {listed:Array Bool} {a:Act} {w:World} (i:Nat) {o:Oper} {dst:Option Tmp} {v:Value} (hi:ops.toList[i]? = some o) (hd:o.dst=dst) (hs:Region.noSelect ops=true) (hf:Region.free md ops listed i=true) (hr:(Region.ready md ops listed).contains i=true)
  (hQ:∀c a w,Q (.panic c) (a.put dst v) w->Q (.panic c) a w) (hy:YieldsIf P ops S o v a) (hS:S w)
  (h:wpAnyH P md ops Q S fuel (listed.setIfInBounds i true) (a.put dst v) w):wpAnyH P md ops Q S (fuel+1) listed a w:=by
 subst hd;exact wpAnyH_take (by simpa using hi) hs hf hr hQ hy hS h
end
abbrev zB:=List (Int×ByteArray)
inductive Res (α:Type) where
 |bad (e:Int)
 |ok (x:α) (j:Nat)
def QL (l:zB) (i:Nat) (k:Int) (s:List UInt8):Bool:=match l[i]? with
 |some t=>t.1==k&&t.2.data.toList==s
 |none=>false
def sgn (l:zB) (i:Nat) (s:List UInt8):Bool:=QL l i 4 s
def wrd (l:zB) (i:Nat) (s:List UInt8):Bool:=QL l i 1 s
def vS (l:zB) (i:Nat) (k:Int):Option ByteArray:=match l[i]? with
 |some t=>if t.1=k then some t.2 else none
 |none=>none
def yM (l:zB) (i:Nat):Option ByteArray:=match vS l i 1 with
 |some t=>if zf t=true then some t else none
 |none=>none
def zL:ByteArray:=⟨#[]⟩
def ym (l:zB) (i:Nat):Res (ByteArray×ByteArray):=match yM l i with
 |none=>.bad 4
 |some n=>if sgn l (i+1) [46]=true then (match yM l (i+2) with
   |none=>.bad 4
   |some m=>.ok (n,m) (i+3)) else .ok (zL,n) (i+1)
def pTy (l:zB):Nat->Nat->Res Ty
 |0,_=>.bad 1
 |f+1,i=>
  if wrd l i [105,110,116]=true then .ok (.mk 1 zL zL []) (i+1)
  else if wrd l i [116,101,120,116]=true then .ok (.mk 2 zL zL []) (i+1)
  else if sgn l i [91]=true then (match pTy l f (i+1) with
   |.bad e=>.bad e
   |.ok t j=>if sgn l j [93]=true then .ok (.mk 3 zL zL [t]) (j+1) else .bad 4)
  else match ym l i with
   |.bad e=>.bad e
   |.ok x j=>.ok (.mk 4 x.1 x.2 []) j
def Yv (l:List UInt8):Int:=l.foldl (fun n c=>10 * n+((c.toNat:Int) - 48)) 0
def zg7 (t:ByteArray):Ex:=.mk 1 (Yv t.data.toList) zL zL []
def zcC (t:ByteArray):Ex:=.mk 2 0 zL t []
def zcD (t:ByteArray):Ex:=.mk 3 0 zL t []
def Yw (o n:ByteArray) (l:List Ex):Ex:=.mk 4 0 o n l
def zaK (x y:Ex):Ex:=.mk 5 0 zL zL [x,y]
def J1 (l:List Ex):Ex:=.mk 6 0 zL zL l
def zc9 (x y:Ex):Ex:=.mk 7 0 zL zL [x,y]
def qZ {α:Type} (sub:Nat->Res α) (l:zB) (fin:List UInt8):Nat->List α->Nat->Res (List α)
 |0,_,_=>.bad 99
 |n+1,acc,i=>match sub i with
  |.bad e=>.bad e
  |.ok x j=>if sgn l j [44]=true then qZ sub l fin n (acc++[x]) (j+1) else if sgn l j fin=true then .ok (acc++[x]) (j+1) else .bad 4
def ZZ (sub:Nat->Res Ex) (l:zB) (i:Nat):Res Ex:=match ym l i with
 |.bad e=>.bad e
 |.ok x j=>if sgn l j [40]=true then (if sgn l (j+1) [41]=true then .ok (Yw x.1 x.2 []) (j+2) else match qZ sub l [41] (l.length+1) [] (j+1) with
   |.bad e=>.bad e
   |.ok xs j'=>.ok (Yw x.1 x.2 xs) j') else if qv x.1=true then .ok (zcD x.2) j else .bad 4
def Qy (sub:Nat->Res Ex) (l:zB) (i:Nat):Res Ex:=
 if sgn l i [40]=true then (match sub (i+1) with
  |.bad e=>.bad e
  |.ok x j=>if sgn l j [41]=true then .ok x (j+1) else .bad 4)
 else if sgn l i [91]=true then (match qZ sub l [93] (l.length+1) [] (i+1) with
  |.bad e=>.bad e
  |.ok xs j=>.ok (J1 xs) j)
 else match vS l i 2 with
  |some t=>.ok (zg7 t) (i+1)
  |none=>match vS l i 3 with
   |some t=>.ok (zcC t) (i+1)
   |none=>ZZ sub l i
def vP (sub:Nat->Res Ex) (l:zB):Nat->Ex->Nat->Res Ex
 |0,_,_=>.bad 99
 |n+1,x,i=>if sgn l i [91]=true then (match sub (i+1) with
   |.bad e=>.bad e
   |.ok p j=>if sgn l j [93]=true then vP sub l n (zc9 x p) (j+1) else .bad 4) else .ok x i
def kR (sub:Nat->Res Ex) (l:zB) (i:Nat):Res Ex:=match Qy sub l i with
 |.bad e=>.bad e
 |.ok x j=>vP sub l (l.length+1) x j
def kj (sub:Nat->Res Ex) (l:zB):Nat->Ex->Nat->Res Ex
 |0,_,_=>.bad 99
 |n+1,x,i=>if sgn l i [43]=true then (match kR sub l (i+1) with
   |.bad e=>.bad e
   |.ok y j=>kj sub l n (zaK x y) j) else .ok x i
def pEx (l:zB):Nat->Nat->Res Ex
 |0,_=>.bad 1
 |f+1,i=>match kR (pEx l f) l i with
  |.bad e=>.bad e
  |.ok x j=>kj (pEx l f) l (l.length+1) x j
def qX (l:zB) (s:List UInt8) (i:Nat):Res Fd:=match yM l i with
 |none=>.bad 4
 |some n=>if sgn l (i+1) s=true then (match pTy l 40 (i+2) with
   |.bad e=>.bad e
   |.ok t j=>.ok ⟨n,t⟩ j) else .bad 4
def ZK (l:zB) (i:Nat):Res ByteArray:=if sgn l i [60]=true then (match yM l (i+1) with
  |none=>.bad 4
  |some v=>if sgn l (i+2) [62]=true then .ok v (i+3) else .bad 4) else .ok zL i
def Ze (l:zB) (i:Nat):Res (List Fd):=if sgn l i [41]=true then .ok [] (i+1) else qZ (qX l [58]) l [41] (l.length+1) [] i
def kH (l:zB) (i:Nat):Res Fu:=match yM l i with
 |none=>.bad 4
 |some n=>match ZK l (i+1) with
  |.bad e=>.bad e
  |.ok v j=>if sgn l j [40]=true then (match Ze l (j+1) with
   |.bad e=>.bad e
   |.ok ps j=>if sgn l j [58]=true then (match pTy l 40 (j+1) with
    |.bad e=>.bad e
    |.ok t j=>if sgn l j [61]=true then (match pEx l 40 (j+1) with
     |.bad e=>.bad e
     |.ok x j=>.ok ⟨n,v,ps,t,x⟩ j) else .bad 4) else .bad 4) else .bad 4
inductive Line where
 |none
 |use (n:ByteArray)
 |typ (f:Fd)
 |fn (f:Fu)
def Zo (l:zB):Except Int Line:=
 let fin (j:Nat) (x:Line):Except Int Line:=if l.length<=j then .ok x else .error 4
 if l.length=0 then .ok .none
 else if wrd l 0 [117,115,101]=true then (match yM l 1 with
  |.none=>.error 4
  |.some n=>fin 2 (.use n))
 else if wrd l 0 [116,121,112,101]=true then (match qX l [61] 1 with
  |.bad e=>.error e
  |.ok f j=>fin j (.typ f))
 else if wrd l 0 [102,117,110,99]=true then (match kH l 1 with
  |.bad e=>.error e
  |.ok f j=>fin j (.fn f))
 else .error 4
def kl (m:Mo):Line->Mo
 |.none=>m
 |.use n=>{ m with uses:=m.uses++[n] }
 |.typ f=>{ m with types:=m.types++[f] }
 |.fn f=>{ m with funcs:=m.funcs++[f] }
theorem vz (s:ByteArray) (l:List UInt8):(s.toList==l)=(s.data.toList==l):=by
 rw[Lib.toList_data]
theorem zfN (s:ByteArray):kwB s=((s.toList==[117,115,101])||((s.toList==[116,121,112,101])||((s.toList==[102,117,110,99])||((s.toList==[105,110,116])||(s.toList==[116,101,120,116]))))):=by
 rw[vz s [117,115,101],vz s [116,121,112,101],vz s [102,117,110,99],vz s [105,110,116],vz s [116,101,120,116]]
 rfl
theorem zX (s:ByteArray) (hs:s.size<=maxLen) (w:World):Calls Tryz.prog 88 #[.string s] w fun e w'=>e=.returned (.bool (zf s))/\Below w.heap.size w w':=by
 have HK:=zd (zfN s);have HI:Hid (zf s=(vG s&&!kwB s)):=rfl;have stop:∀b,kwB s=true->Ending.returned (Value.bool false)=Ending.returned (.bool (zf s))/\Below b w w:=fun b h=>⟨by rw[HI.out,h]; simp,Below.refl _ _⟩
 have HS:=zd stop;clear stop
 cases h1:(s.toList==[117,115,101])
 case true=>
  have HT:Hid (kwB s=true):=by show _=_; rw[HK.out,h1]; rfl
  go_enter Tryz.func88,Tryz.ntmps88;go_wp2_with fail;go_ret;exact HS.out _ HT.out
 cases h2:(s.toList==[116,121,112,101])
 case true=>
  have HT:Hid (kwB s=true):=by show _=_; rw[HK.out,h1,h2]; rfl
  go_enter Tryz.func88,Tryz.ntmps88;go_wp2_with fail;go_ret;exact HS.out _ HT.out
 cases h3:(s.toList==[102,117,110,99])
 case true=>
  have HT:Hid (kwB s=true):=by show _=_; rw[HK.out,h1,h2,h3]; rfl
  go_enter Tryz.func88,Tryz.ntmps88;go_wp2_with fail;go_ret;exact HS.out _ HT.out
 cases h4:(s.toList==[105,110,116])
 case true=>
  have HT:Hid (kwB s=true):=by show _=_; rw[HK.out,h1,h2,h3,h4]; rfl
  go_enter Tryz.func88,Tryz.ntmps88;go_wp2_with fail;go_ret;exact HS.out _ HT.out
 cases h5:(s.toList==[116,101,120,116])
 case true=>
  have HT:Hid (kwB s=true):=by show _=_; rw[HK.out,h1,h2,h3,h4,h5]; rfl
  go_enter Tryz.func88,Tryz.ntmps88;go_wp2_with fail;go_ret;exact HS.out _ HT.out
 have HT:Hid (kwB s=false):=by show _=_; rw[HK.out,h1,h2,h3,h4,h5]; rfl
 go_enter Tryz.func88,Tryz.ntmps88;go_wp2_with fail;refine (zaR s hs _).mono ?_;rintro e w' ⟨rfl,hb⟩
 go_wp2
 go_ret;exact⟨by rw[HI.out,HT.out]; simp,hb⟩
def jV (s:ByteArray):Nat->Int
 |0=>0
 |k+1=>jV s k * 10+zz s k - 48
def Xa (s:ByteArray) (j:Nat):Bool:=xt (zz s j)&&decide (jV s (j+1)<=999999)
def j4 (s:ByteArray):Bool:=decide (1<s.size)&&(zz s 0==48)
def jr (s:ByteArray):Bool:=ZI (fun j=>xt (zz s j)) s.size&&(qj s.size 1 6&&!j4 s)
theorem jE {b:Int} (h:xt b=true):48<=b/\b<=57:=by
 simpa [xt] using h
theorem VS (s:ByteArray) (n:Nat) (h:∀j,j<n->xt (zz s j)=true):∀k,k<=n->0<=jV s k/\jV s k<10 ^ k
 |0,_=>by simp[jV]
 |k+1,hk=>by
  have ih:=VS s n h k (by omega);have hd:=jE (h k (by omega));have e:(10:Int) ^ (k+1)=10 ^ k * 10:=Int.pow_succ _ _;simp only[jV];omega
theorem zfO (s:ByteArray) (n:Nat) (h:∀j,j<n->xt (zz s j)=true) (h0:zz s 0≠48) (hn:6<n):999999<jV s 7:=by
 have d0:=jE (h 0 (by omega));have d1:=jE (h 1 (by omega));have d2:=jE (h 2 (by omega));have d3:=jE (h 3 (by omega));have d4:=jE (h 4 (by omega));have d5:=jE (h 5 (by omega));have d6:=jE (h 6 (by omega));simp only[jV];omega
theorem zfP (s:ByteArray) (h1:s.size≠0) (h2:j4 s=false):ZI (Xa s) s.size=jr s:=by
 unfold jr;rw[h2,Bool.not_false,Bool.and_true];rw[Bool.eq_iff_iff,Bool.and_eq_true,XP,XP]
 constructor
 ·intro e
  have hd:∀j,j<s.size->xt (zz s j)=true:=fun j hj=>by
   have:=e j hj;simp only[Xa,Bool.and_eq_true] at this;exact this.1
  refine⟨hd,?_⟩
  by_cases h6:6<s.size
  ·have hz:zz s 0≠48:=by
    intro hz;simp[j4,hz] at h2;omega
   have hu:=zfO s s.size hd hz h6;have:=e 6 h6;simp only[Xa,Bool.and_eq_true,decide_eq_true_eq] at this;have h7:jV s 7<=999999:=this.2;omega
  ·simp[qj]; omega
 ·rintro ⟨hd,hin⟩ j hj
  have hs:s.size<=6:=by simp[qj] at hin; omega
  have hb:=(VS s s.size hd (j+1) (by omega)).2;have hp:10 ^ (j+1)<=10 ^ 6:=Nat.pow_le_pow_right (by omega) (by omega);have hq:((10 ^ (j+1):Nat):Int)=(10:Int) ^ (j+1):=Int.natCast_pow 10 (j+1);have hr:(10:Nat) ^ 6=1000000:=rfl;simp only[Xa,Bool.and_eq_true,decide_eq_true_eq];exact⟨hd j hj,by omega⟩
theorem zef (s:ByteArray) (h:s.size=0):jr s=false:=by
 simp[jr,qj,h]
theorem zfQ (s:ByteArray) (h:j4 s=true):jr s=false:=by
 simp[jr,h]
theorem zfR (b v:Int) (B:Nat) (hb0:0<=b) (hb1:b<=255) (hv0:0<=v) (hv1:v<=999999) (w:World) (hc:w.cell? ⟨B,0,none⟩=some (.int .i64 v)) (hf:w.frozen? ⟨B,0,none⟩=false) :
  Calls Tryz.prog 285 #[.int .u8 b,.pointer (some ⟨B,0,none⟩)] w fun e w'=>e=.returned (.bool (xt b&&decide (v * 10+b - 48<=999999)))/\w.setCell ⟨B,0,none⟩ (.int .i64 (v * 10+b - 48))=w':=by
 cases hd:xt b
 ·go_enter Tryz.func285,Tryz.ntmps285
  go_wp2_with (go_at_call 234; refine (Qd _ _).mono ?_; rintro e w' ⟨rfl,rfl⟩);go_ret;exact⟨rfl,rfl⟩
 ·go_enter Tryz.func285,Tryz.ntmps285
  go_wp2_with (go_at_call 234; refine (Qd _ _).mono ?_; rintro e w' ⟨rfl,rfl⟩);go_ret;exact⟨rfl,rfl⟩
theorem zaS (s:ByteArray) (hmax:s.size<=maxLen) (w:World) :
  Calls Tryz.prog 222 #[.string s,.func (.func 285) #[] #[.pointer (some ⟨w.heap.size,0,none⟩)]] (w.alloc (.cells #[.int .i64 0] 3)) fun e w'=>e=.returned (.bool (ZI (Xa s) s.size))/\Below w.heap.size w w':=by
 refine (Ks 285 #[.pointer (some ⟨w.heap.size,0,none⟩)] (enters_of Tryz.func285 (by kernel_rfl) rfl) s hmax (Xa s)
  (fun k W=>W.cell? ⟨w.heap.size,0,none⟩=some (.int .i64 (jV s k))/\W.frozen? ⟨w.heap.size,0,none⟩=false/\W.cell? ⟨w.heap.size+1,0,none⟩=some (.string s)/\Below w.heap.size w W)
  (w.alloc (.cells #[.int .i64 0] 3)) ?_ ?_ ?_).mono ?_
 ·rintro k hk W _ hall ⟨hc,hf,hcs,hbl⟩
  have hd:∀j,j<k->xt (zz s j)=true:=fun j hj=>by
   have:=hall j (Nat.zero_le _) hj;simp only[Xa,Bool.and_eq_true] at this;exact this.1
  have hv0:0<=jV s k:=(VS s k hd k (Nat.le_refl _)).1;have hv1:jV s k<=999999:=by
   cases k with
   |zero=>simp[jV]
   |succ j=>
    have:=hall j (Nat.zero_le _) (by omega);simp only[Xa,Bool.and_eq_true,decide_eq_true_eq] at this;exact this.2
  have hr:=zaQ s k;have hb:=kh s k hk;rw[hb];refine (zfR (zz s k) (jV s k) w.heap.size hr.1 hr.2 hv0 hv1 W hc hf).mono ?_;rintro e w' ⟨rfl,rfl⟩;refine⟨rfl,World.cell?_setCell_same W _ _ hc,?_,?_,hbl.setCell (Nat.le_refl _) _⟩
  ·rw[World.frozen?_setCell]; exact hf
  ·exact (World.cell?_setCell_other W _ _ _ (by intro h; injection h; omega)).trans hcs
 ·rintro k W ⟨_,_,hcs,_⟩
  simpa using hcs
 ·refine⟨?_,?_,?_,?_⟩
  ·rw[World.cell?_alloc_past _ _ _ (by simp),World.cell?_alloc_at _ _ _ _ rfl]; rfl
  ·rw[World.frozen?_alloc_past _ _ _ (by simp),World.frozen?_alloc_at _ _ _ _ rfl]
  ·rw[World.cell?_alloc_at _ _ _ _ (by simp)]; rfl
  ·exact ((Below.refl _ _).alloc (Nat.le_refl _) _).alloc (by simp) _
 ·rintro e w' ⟨rfl,j,_,_,_,hb⟩
  exact⟨rfl,hb⟩
theorem zda (s:ByteArray) (hs:s.size<=maxLen) (w:World):Calls Tryz.prog 235 #[.string s] w fun e w'=>e=.returned (.bool (jr s))/\Below w.heap.size w w':=by
 have hmf:∀(fn:Fn) (first cap:Array Value) (w:World),(Instr.makeFunc fn first cap).run Tryz.prog w=.ok (.func fn first cap) w:=fun _ _ _ _=>rfl
 have hmax:=hs;unfold maxLen at hs
 by_cases h0:s.size=0
 ·have hz:(((s.size:Nat):Int)==0)=true:=by simp[h0]
  have HF:=zd (zef s h0);clear h0;go_enter Tryz.func235,Tryz.ntmps235
  go_wp2
  go_ret;exact⟨by rw[HF.out]; rfl,Below.refl _ _⟩
 ·have hz:(((s.size:Nat):Int)==0)=false:=by simp[h0]
  have hpos:0<s.size:=by omega
  have HB:=zd (kh s 0 hpos)
  cases hl:j4 s
  ·have HG:=zd (zfP s h0 hl)
   have hev:=zaS s hmax w;have h1:¬((1:Int)<(s.size:Int)/\((s[0]'hpos).toNat:Int)=48):=by
    rw[HB.out];rintro ⟨h1,h2⟩;have h1':1<s.size:=by omega
    simp[j4,h1',h2] at hl
   clear hl h0
   by_cases h2:(1:Int)<(s.size:Int)
   ·have h48:(((s[0]'hpos).toNat:Int)==48)=false:=by
     rw[beq_eq_false_iff_ne];exact fun h=>h1 ⟨h2,h⟩
    clear h1;go_enter Tryz.func235,Tryz.ntmps235;go_wp2_with (go_at_call 222; refine hev.mono ?_; rintro e w' ⟨rfl,hb⟩);go_ret;exact⟨by rw[<- HG.out]; rfl,hb⟩
   ·clear h1
    go_enter Tryz.func235,Tryz.ntmps235;go_wp2_with (go_at_call 222; refine hev.mono ?_; rintro e w' ⟨rfl,hb⟩);go_ret;exact⟨by rw[<- HG.out]; rfl,hb⟩
  ·have HF:=zd (zfQ s hl)
   have h1:(1:Int)<(s.size:Int):=by simp[j4] at hl; omega
   have h48:(((s[0]'hpos).toNat:Int)==48)=true:=by rw[HB.out]; simp[j4] at hl; simp[hl.2]
   clear h0 hl;go_enter Tryz.func235,Tryz.ntmps235
   go_wp2
   go_ret;exact⟨by rw[HF.out]; rfl,Below.refl _ _⟩
end Go.Proofs.YtedpiamfpbdhoaaGreatDoor
