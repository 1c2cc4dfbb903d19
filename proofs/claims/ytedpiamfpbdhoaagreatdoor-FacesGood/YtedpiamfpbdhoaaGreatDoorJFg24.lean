import Derived.Test.YtedpiamfpbdhoaaGreatDoorJFg23
set_option maxHeartbeats 40000000
set_option maxRecDepth 100000
namespace Go.Proofs.YtedpiamfpbdhoaaGreatDoor
open Go.RowKit
def unw (p i:ByteArray):ByteArray×ByteArray:=if zZ p=true/\zZ i=true then unw (q6 p) (q6 i) else (p,i)
termination_by p.size
decreasing_by rename_i h; rw[vg (qo h.1)]; have:=qo h.1; omega
theorem zfo {p i:ByteArray} (h:zZ p=true) (h':zZ i=true):unw p i=unw (q6 p) (q6 i):=by rw[unw.eq_1 p i]; simp[h,h']
theorem zbI {p i:ByteArray} (h:zZ p=false\/zZ i=false):unw p i=(p,i):=by
 rw[unw.eq_1 p i,if_neg];rintro ⟨h1,h2⟩
 rcases h with h|h
 ·rw[h] at h1; cases h1
 ·rw[h] at h2; cases h2
def yK (p i b:ByteArray):Int:=if zy p=0 then (if zy i=0 then (if b.toList==[] then 0 else zy b) else zy i) else zy p
def Y9 (p i b:ByteArray):Int:=if p.toList==[42] then (if b.toList==[] then 0 else if b.toList==i.toList then 0 else 8) else if p.toList==i.toList then 0 else 8
def Va (p i b:ByteArray):ByteArray:=if p.toList==[42] then i else b
def qQ (p i b:ByteArray):Int:=if yK p i b=0 then Y9 (unw p i).1 (unw p i).2 b else yK p i b
def yj (p i b:ByteArray):ByteArray:=if qQ p i b=0 then Va (unw p i).1 (unw p i).2 b else ⟨#[]⟩
theorem zfp {p i b:ByteArray} (h:yK p i b=0):zy p=0/\zy i=0/\((b.toList==[])=true\/zy b=0):=by
 unfold yK at h
 split at h
 ·split at h
  ·split at h
   ·exact⟨by assumption,by assumption,.inl (by assumption)⟩
   ·exact⟨by assumption,by assumption,.inr h⟩
  ·exact absurd h (by assumption)
 ·exact absurd h (by assumption)
theorem zdY {b:ByteArray} (h:(b.toList==[])=true):b.size=0:=by
 have h':b.toList=[]:=by simpa using h
 rw[Lib.toList_data] at h';have:b.data.toList.length=0:=by rw[h']; rfl
 simpa using this
theorem VK {p i b:ByteArray} (h:yK p i b=0):p.size<=600/\i.size<=600/\b.size<=600:=by
 obtain⟨h1,h2,h3⟩:=zfp h;refine⟨vU h1,vU h2,?_⟩
 rcases h3 with h3|h3
 ·rw[zdY h3]; omega
 ·exact vU h3
theorem Vb (p i b:ByteArray) (hp:p.size<=maxLen) (hi:i.size<=maxLen) (hb:b.size<=maxLen) (w:World) :
  Calls Tryz.prog 345 #[.string p,.string i,.string b] w fun e w'=>e=.returned (.int .i64 (yK p i b))/\w=w':=by
 by_cases h1:zy p=0
 ·by_cases h2:zy i=0
  ·cases h3:(b.toList==[]) with
   |true=>
    have HE:Hid (yK p i b=0):=by show _=_; unfold yK; simp[h1,h2,h3]
    go_enter Tryz.func345,Tryz.ntmps345;go_wp2_with fail;refine (zV p hp _).mono ?_;rintro e w' ⟨rfl,rfl⟩;rw[h1];go_wp2_with fail;refine (zV i hi _).mono ?_;rintro e w' ⟨rfl,rfl⟩;rw[h2]
    go_wp2
    go_ret;exact⟨by rw[HE.out]; rfl,rfl⟩
   |false=>
    have HE:Hid (yK p i b=zy b):=by show _=_; unfold yK; rw[if_pos h1,if_pos h2,h3]; simp
    go_enter Tryz.func345,Tryz.ntmps345;go_wp2_with fail;refine (zV p hp _).mono ?_;rintro e w' ⟨rfl,rfl⟩;rw[h1];go_wp2_with fail;refine (zV i hi _).mono ?_;rintro e w' ⟨rfl,rfl⟩;rw[h2];go_wp2_with fail;refine (zV b hb _).mono ?_;rintro e w' ⟨rfl,rfl⟩
    go_wp2
    go_ret;exact⟨by rw[HE.out]; rfl,rfl⟩
  ·have HE:Hid (yK p i b=zy i):=by show _=_; unfold yK; rw[if_pos h1,if_neg h2]
   have h2':(zy i != 0)=true:=by simpa using h2
   go_enter Tryz.func345,Tryz.ntmps345;go_wp2_with fail;refine (zV p hp _).mono ?_;rintro e w' ⟨rfl,rfl⟩;rw[h1];clear h1 h2;go_wp2_with fail;refine (zV i hi _).mono ?_;rintro e w' ⟨rfl,rfl⟩
   go_wp2
   go_ret;exact⟨by rw[HE.out]; rfl,rfl⟩
 ·have HE:Hid (yK p i b=zy p):=by show _=_; unfold yK; rw[if_neg h1]
  have h1':(zy p != 0)=true:=by simpa using h1
  clear h1;go_enter Tryz.func345,Tryz.ntmps345;go_wp2_with fail;refine (zV p hp _).mono ?_;rintro e w' ⟨rfl,rfl⟩
  go_wp2
  go_ret;exact⟨by rw[HE.out]; rfl,rfl⟩
theorem zdZ (p i:ByteArray) (hp:p.size<=600) (hi:i.size<=600) (w:World) :
  Calls Tryz.prog 346 #[.string p,.string i] w fun e w'=>e=.returned (.tuple #[.string (unw p i).1,.string (unw p i).2])/\Below w.heap.size w w':=by
 go_enter Tryz.func346,Tryz.ntmps346;go_wp2_with fail
 go_loopw [0,1] (fun v u wr=>∃a b:ByteArray,a.size<=600/\b.size<=600/\v=.string a/\u=.string b/\unw a b=unw p i/\Below w.heap.size w wr) (fun v _ _=>(zcO v).size)
 case atStart=>exact⟨p,i,hp,hi,rfl,rfl,rfl,Below.refl _ _⟩
 case round=>
  obtain⟨a,b,ha,hb,rfl,rfl,hu,hbl⟩:=hrel;have HU:=zE hu;have HB:=zE hbl;clear hu hbl
  cases h1:zZ a with
  |true=>
   cases h2:zZ b with
   |true=>
    have HI:=zE (zfo h1 h2);have HS1:=zE (vg (qo h1));have HS2:=zE (vg (qo h2));have HL:=zE (qo h1);go_wp2_with fail;refine (Qk (by omega) h1 _).mono ?_;rintro e w1 ⟨rfl,hb1⟩;have HB1:=zE (HB.out.trans (hb1.mono HB.out.size));clear hb1 HB;go_wp2_with fail;refine (Qk (by omega) h2 _).mono ?_;rintro e w2 ⟨rfl,hb2⟩;have HB2:=zE (HB1.out.trans (hb2.mono HB1.out.size));clear hb2 HB1 h1 h2;go_wp2_with fail
    go_roundw
    case rel=>exact⟨q6 a,q6 b,by rw[HS1.out]; omega,by rw[HS2.out]; omega,rfl,rfl,by rw[<- HI.out]; exact HU.out,HB2.out⟩
    case measure=>show (q6 a).size<a.size; have:=HL.out; rw[HS1.out]; omega
   |false=>
    have HN:=zE (zbI (p:=a) (i:=b) (.inr h2));go_wp2_with fail;refine (Qk (by omega) h1 _).mono ?_;rintro e w1 ⟨rfl,hb1⟩;have HB1:=zE (HB.out.trans (hb1.mono HB.out.size));clear hb1 HB;go_wp2_with fail;refine (Xf (by unfold maxLen; omega) h2 _).mono ?_;rintro e w2 ⟨rfl,rfl⟩;clear h1 h2;go_wp2_with fail;go_ret2;exact⟨by rw[<- HU.out,HN.out]; rfl,HB1.out⟩
  |false=>
   have HN:=zE (zbI (p:=a) (i:=b) (.inl h1));go_wp2_with fail;refine (Xf (by unfold maxLen; omega) h1 _).mono ?_;rintro e w1 ⟨rfl,rfl⟩
   cases h2:zZ b with
   |true=>
    go_wp2_with fail;refine (Qk (by omega) h2 _).mono ?_;rintro e w2 ⟨rfl,hb2⟩;have HB2:=zE (HB.out.trans (hb2.mono HB.out.size));clear hb2 HB h1 h2;go_wp2_with fail;go_ret2;exact⟨by rw[<- HU.out,HN.out]; rfl,HB2.out⟩
   |false=>
    go_wp2_with fail;refine (Xf (by unfold maxLen; omega) h2 _).mono ?_;rintro e w2 ⟨rfl,rfl⟩;clear h1 h2;go_wp2_with fail;go_ret2;exact⟨by rw[<- HU.out,HN.out]; rfl,HB.out⟩
theorem Jj (p i:ByteArray):(unw p i).1.size<=p.size/\(unw p i).2.size<=i.size:=by
 by_cases h:zZ p=true/\zZ i=true
 ·have z1:=vg (qo h.1)
  have z2:=vg (qo h.2);have:=Jj (q6 p) (q6 i);rw[zfo h.1 h.2];omega
 ·rw[zbI]
  ·exact⟨Nat.le_refl _,Nat.le_refl _⟩
  ·cases h1:zZ p with
   |false=>exact .inl rfl
   |true=>
    cases h2:zZ i with
    |false=>exact .inr rfl
    |true=>exact absurd ⟨h1,h2⟩ h
termination_by p.size
decreasing_by have:=qo h.1; omega
def kD (i b:ByteArray):Int:=if b.toList==[] then 0 else if b.toList==i.toList then 0 else 8
def kE (i b:ByteArray):ByteArray:=if kD i b=0 then i else ⟨#[]⟩
theorem zgN (i b:ByteArray) (hi:i.size<=600) (w:World) :
  Calls Tryz.prog 347 #[.string i,.string b] w fun e w'=>e=.returned (.tuple #[.string (kE i b),.int .i64 (kD i b)])/\Below w.heap.size w w':=by
 cases h2:(b.toList==[]) with
 |true=>
  have HF:Hid (kD i b=0):=by show _=_; unfold kD; rw[h2]; simp
  have HW:Hid (kE i b=i):=by show _=_; unfold kE; rw[if_pos HF.out]
  go_enter Tryz.func347,Tryz.ntmps347;go_wp2_with fail;refine (qM i _ (by omega)).mono ?_;rintro e w3 ⟨rfl,hb3⟩;go_wp2_with fail;go_ret2;exact⟨by rw[HF.out,HW.out]; rfl,hb3⟩
 |false=>
  have h2':(b.toList != [])=true:=by rw[bne,h2]; rfl
  cases h3:(b.toList==i.toList) with
  |true=>
   have HF:Hid (kD i b=0):=by show _=_; unfold kD; rw[h2,h3]; simp
   have HW:Hid (kE i b=i):=by show _=_; unfold kE; rw[if_pos HF.out]
   have h3':(b.toList != i.toList)=false:=by rw[bne,h3]; rfl
   go_enter Tryz.func347,Tryz.ntmps347;go_wp2_with fail;refine (qM i _ (by omega)).mono ?_;rintro e w3 ⟨rfl,hb3⟩;go_wp2_with fail;go_ret2;exact⟨by rw[HF.out,HW.out]; rfl,hb3⟩
  |false=>
   have HF:Hid (kD i b=8):=by show _=_; unfold kD; rw[h2,h3]; simp
   have HW:Hid (kE i b=⟨#[]⟩):=by show _=_; unfold kE; rw[if_neg (by rw[HF.out]; decide)]
   have h3':(b.toList != i.toList)=true:=by rw[bne,h3]; rfl
   go_enter Tryz.func347,Tryz.ntmps347;go_wp2_with fail;go_ret2;exact⟨by rw[HF.out,HW.out]; rfl,Below.refl _ _⟩
theorem zfq (p i b:ByteArray) (hp:p.size<=maxLen) (hi:i.size<=maxLen) (hb:b.size<=maxLen) (w:World) :
  Calls Tryz.prog 334 #[.string p,.string i,.string b] w fun e w'=>e=.returned (.tuple #[.string (yj p i b),.int .i64 (qQ p i b)])/\Below w.heap.size w w':=by
 by_cases h0:yK p i b=0
 ·obtain⟨zp,zi,zb⟩:=VK h0
  have HU:=zE (zdZ p i zp zi w);have zu:=Jj p i;have HE:Hid (qQ p i b=Y9 (unw p i).1 (unw p i).2 b):=by show _=_; unfold qQ; rw[if_pos h0]
  have HV:Hid (qQ p i b=0->yj p i b=Va (unw p i).1 (unw p i).2 b):=by intro h; unfold yj; rw[if_pos h]
  have HV':Hid (qQ p i b≠0->yj p i b=⟨#[]⟩):=by intro h; unfold yj; rw[if_neg h]
  go_enter Tryz.func334,Tryz.ntmps334;go_wp2_with fail;refine (Vb p i b hp hi hb _).mono ?_;rintro e w1 ⟨rfl,rfl⟩;rw[h0];go_wp2_with fail;refine HU.out.mono ?_;rintro e w2 ⟨rfl,hb2⟩;clear HU h0;generalize (unw p i).1=q at *;generalize (unw p i).2=j at *
  cases h1:(q.toList==[42]) with
  |true=>
   have HF:Hid (qQ p i b=kD j b):=by show _=_; rw[HE.out]; unfold Y9; rw[h1]; rfl
   have HW:Hid (yj p i b=kE j b):=by
    show _=_;unfold kE;rw[<- HF.out]
    split
    ·next h=>rw[HV.out h]; unfold Va; rw[h1]; rfl
    ·next h=>rw[HV'.out h]
   clear HE HV HV';go_wp2_with fail;refine (zgN j b (by omega) _).mono ?_;rintro e w3 ⟨rfl,hb3⟩;have HB3:=zE (hb2.trans (hb3.mono hb2.size));clear hb2 hb3;go_wp2_with fail;go_ret2;exact⟨by rw[HF.out,HW.out]; rfl,HB3.out⟩
  |false=>
   cases h2:(q.toList==j.toList) with
   |true=>
    have HF:Hid (qQ p i b=0):=by show _=_; rw[HE.out]; unfold Y9; rw[h1,h2]; rfl
    have HW:Hid (yj p i b=b):=by show _=_; rw[HV.out HF.out]; unfold Va; rw[h1]; rfl
    have h2':(q.toList != j.toList)=false:=by rw[bne,h2]; rfl
    clear HE HV HV';go_wp2_with fail;refine (qM b _ (by omega)).mono ?_;rintro e w3 ⟨rfl,hb3⟩;have HB3:=zE (hb2.trans (hb3.mono hb2.size));clear hb2 hb3;go_wp2_with fail;go_ret2;exact⟨by rw[HF.out,HW.out]; rfl,HB3.out⟩
   |false=>
    have HF:Hid (qQ p i b=8):=by show _=_; rw[HE.out]; unfold Y9; rw[h1,h2]; rfl
    have HW:Hid (yj p i b=⟨#[]⟩):=HV'.out (by rw[HF.out]; decide);have h2':(q.toList != j.toList)=true:=by rw[bne,h2]; rfl
    clear HE HV HV';go_wp2_with fail;go_ret2;exact⟨by rw[HF.out,HW.out]; rfl,hb2⟩
 ·have HE:Hid (qQ p i b=yK p i b):=by show _=_; unfold qQ; rw[if_neg h0]
  have HV:Hid (yj p i b=⟨#[]⟩):=by show _=_; unfold yj qQ; rw[if_neg h0,if_neg h0]
  have h0':(yK p i b != 0)=true:=by simpa using h0
  clear h0;go_enter Tryz.func334,Tryz.ntmps334;go_wp2_with fail;refine (Vb p i b hp hi hb _).mono ?_;rintro e w1 ⟨rfl,rfl⟩;go_wp2_with fail;go_ret2;exact⟨by rw[HE.out,HV.out]; rfl,Below.refl _ _⟩
def ZF (b:List UInt8):List UInt8->List UInt8
 |[]=>[]
 |c::l=>(if c=42 then b else [c])++ZF b l
theorem Yq (b:List UInt8):∀l m:List UInt8,ZF b (l++m)=ZF b l++ZF b m
 |[],m=>rfl
 |c::l,m=>by simp[ZF,Yq b l m]
theorem Xy (b:List UInt8):∀l:List UInt8,(42:UInt8) ∉ l->ZF b l=l
 |[],_=>rfl
 |c::l,h=>by
  have h1:c≠42:=fun e=>h (by rw[e]; exact List.mem_cons_self)
  have h2:(42:UInt8) ∉ l:=fun e=>h (List.mem_cons_of_mem _ e)
  simp[ZF,h1,Xy b l h2]
def Vu (p b:ByteArray):ByteArray:=⟨(ZF b.data.toList p.data.toList).toArray⟩
def vx (p b:ByteArray):Int:=if zy p=0 then (if xM p then (if zy b=0 then (if 601<p.size+b.size then 1 else 0) else zy b) else 0) else zy p
def vH (p b:ByteArray):ByteArray:=if vx p b=0 then (if xM p then Vu p b else p) else ⟨#[]⟩
theorem JO {s:ByteArray} (h:zZ s=true):s.data.toList=91::(q6 s).data.toList++[93]:=by
 have h2:=qo h;have hz:s.data.toList.length=s.size:=(Lib.size_eq s).symm;unfold zZ at h;simp only[Bool.and_eq_true,decide_eq_true_eq,beq_iff_eq] at h;obtain⟨_,ha,hb⟩:=h;have e:(q6 s).data.toList=(s.data.toList.drop 1).take (s.size - 1 - 1):=by
  unfold q6; rw[Lib.extract_data]
 rw[e];unfold kAt at ha hb
 match hl:s.data.toList,hz with
 |[],hz=>simp at hz; omega
 |c::l,hz=>
  rw[hl] at ha hb;simp at hz;have hc:c=91:=by
   have h':((c.toNat:Nat):Int)=91:=by simpa using ha
   have:c.toNat=91:=by omega
   exact UInt8.toNat_inj.1 (by rw[this]; rfl)
  rw[hc];simp only[List.drop_succ_cons,List.drop_zero,List.cons_append,List.cons.injEq,true_and];have hlen:l.length=s.size - 1:=by omega
  have hne:l≠[]:=by intro h; rw[h] at hlen; simp at hlen; omega
  have hlast:l.getLast hne=93:=by
   rw[List.getLast_eq_getElem];have:((c::l).getD (s.size - 1) 0)=l[l.length - 1]'(by omega):=by
    rw[show s.size - 1=(l.length - 1)+1 by omega,List.getD_cons_succ,List.getD_eq_getElem?_getD,List.getElem?_eq_getElem (by omega)]
    rfl
   rw[this] at hb;exact UInt8.toNat_inj.1 (by
    have h':(l[l.length - 1]'(by omega)).toNat=93:=by omega
    rw[h']; rfl)
  rw[<- hlast,show s.size - 1 - 1=l.length - 1 by omega,<- List.dropLast_eq_take,List.dropLast_concat_getLast hne]
theorem JP {t:ByteArray} (h:jM t=true) (hv:xM t=true):t.data.toList=[42]:=by
 unfold jM at h;simp only[Bool.or_eq_true,beq_iff_eq,Lib.toList_data] at h;unfold xM at hv
 rcases h with h|h|h
 ·rw[h] at hv; exact absurd hv (by decide)
 ·rw[h] at hv; exact absurd hv (by decide)
 ·exact h
theorem zbJ (n:Nat):∀(p:ByteArray),p.size<=n->jM (kS p)=true->xM p=true->∃pre post:List UInt8,p.data.toList=pre++42::post/\(42:UInt8) ∉ pre/\(42:UInt8) ∉ post:=by
 induction n with
 |zero=>
  intro p hp hb hv;have l1:zZ p=false:=by
   cases e:zZ p with
   |false=>rfl
   |true=>have:=qo e; omega
  rw[X2 l1] at hb;exact⟨[],[],by rw[JP hb hv]; rfl,by simp,by simp⟩
 |succ n ih=>
  intro p hp hb hv
  cases l1:zZ p with
  |false=>
   rw[X2 l1] at hb;exact⟨[],[],by rw[JP hb hv]; rfl,by simp,by simp⟩
  |true=>
   have h2:=qo l1;have hz:=vg h2;have e:=JO l1;rw[V3 l1] at hb;obtain⟨pre,post,h1,h3,h4⟩:=ih (q6 p) (by omega) hb (by
    unfold xM at hv ⊢;rw[List.contains_iff_mem] at hv ⊢;rw[e] at hv;simpa using hv)
   refine⟨91::pre,post++[93],by rw[e,h1]; simp,?_,?_⟩
   ·simpa using h3
   ·simpa using h4
theorem ZG {p:ByteArray} (h:zy p=0):jM (kS p)=true:=by
 unfold zy at h
 split at h
 ·cases h
 ·split at h
  ·assumption
  ·cases h
theorem JQ {p b:ByteArray} {pre post:List UInt8} (h:p.data.toList=pre++42::post) (h1:(42:UInt8) ∉ pre) (h2:(42:UInt8) ∉ post):Vu p b=⟨(pre++b.data.toList++post).toArray⟩:=by
 unfold Vu;rw[h,Yq,Xy _ pre h1];show (⟨(pre++(b.data.toList++ZF b.data.toList post)).toArray⟩:ByteArray)=_;rw[Xy _ post h2,List.append_assoc]
theorem JR {p b:ByteArray} (hp:zy p=0) (hv:xM p=true):(Vu p b).size+1=p.size+b.size:=by
 obtain⟨pre,post,h,h1,h2⟩:=zbJ p.size p (Nat.le_refl _) (ZG hp) hv;rw[JQ h h1 h2,Lib.size_eq p,h,Lib.size_eq b];show (pre++b.data.toList++post).toArray.size+1=_;simp;omega
theorem zcX (p b:ByteArray) (hp:p.size<=maxLen) (hb:b.size<=maxLen) (w:World) :
  Calls Tryz.prog 320 #[.string p,.string b] w fun e w'=>e=.returned (.tuple #[.string (vH p b),.int .i64 (vx p b)])/\Below w.heap.size w w':=by
 by_cases h1:zy p=0
 ·have zp:=vU h1
  cases hv:xM p with
  |false=>
   have HE:Hid (vx p b=0):=by show _=_; unfold vx; rw[if_pos h1,hv]; rfl
   have HV:Hid (vH p b=p):=by show _=_; unfold vH; rw[if_pos HE.out,hv]; rfl
   go_enter Tryz.func320,Tryz.ntmps320;go_wp2_with fail;refine (zV p hp _).mono ?_;rintro e w1 ⟨rfl,rfl⟩;rw[h1];go_wp2_with fail;refine (k9 p _).mono ?_;rintro e w1 ⟨rfl,rfl⟩;rw[hv];go_wp2_with fail;refine (qM p _ (by omega)).mono ?_;rintro e w1 ⟨rfl,hb1⟩;go_wp2_with fail;go_ret2;exact⟨by rw[HE.out,HV.out]; rfl,hb1⟩
  |true=>
   by_cases h2:zy b=0
   ·have zb:=vU h2
    obtain⟨pre,post,hq,hq1,hq2⟩:=zbJ p.size p (Nat.le_refl _) (ZG h1) hv;have HR:=zE (fun w=>zco p b pre post hq hq1 hq2 zp zb w);have HO:=zE (@JQ p b pre post hq hq1 hq2);have HZ:=zE (@JR p b h1 hv);clear hq hq1 hq2
    by_cases h6:601<p.size+b.size
    ·have HE:Hid (vx p b=1):=by show _=_; unfold vx; rw[if_pos h1,hv,if_pos h2,if_pos h6]; rfl
     have HV:Hid (vH p b=⟨#[]⟩):=by show _=_; unfold vH; rw[if_neg (by rw[HE.out]; decide)]
     have h6':(600:Int)<(p.size:Int) - 1+(b.size:Int):=by omega
     go_enter Tryz.func320,Tryz.ntmps320;go_wp2_with fail;refine (zV p hp _).mono ?_;rintro e w1 ⟨rfl,rfl⟩;rw[h1];go_wp2_with fail;refine (k9 p _).mono ?_;rintro e w1 ⟨rfl,rfl⟩;rw[hv];go_wp2_with fail;refine (zV b hb _).mono ?_;rintro e w1 ⟨rfl,rfl⟩;rw[h2];go_wp2_with fail;go_ret2;exact⟨by rw[HE.out,HV.out]; rfl,Below.refl _ _⟩
    ·have HE:Hid (vx p b=0):=by show _=_; unfold vx; rw[if_pos h1,hv,if_pos h2,if_neg h6]; rfl
     have HV:Hid (vH p b=Vu p b):=by show _=_; unfold vH; rw[if_pos HE.out,hv]; rfl
     have h6':¬(600:Int)<(p.size:Int) - 1+(b.size:Int):=by omega
     go_enter Tryz.func320,Tryz.ntmps320;go_wp2_with fail;refine (zV p hp _).mono ?_;rintro e w1 ⟨rfl,rfl⟩;rw[h1];go_wp2_with fail;refine (k9 p _).mono ?_;rintro e w1 ⟨rfl,rfl⟩;rw[hv];go_wp2_with fail;refine (zV b hb _).mono ?_;rintro e w1 ⟨rfl,rfl⟩;rw[h2];go_wp2_with fail;refine (HR.out _).mono ?_;rintro e w2 ⟨rfl,hb2⟩;rw[<- HO.out];have hz:=HZ.out;go_wp2_with fail;refine (qM (Vu p b) _ (by omega)).mono ?_;rintro e w3 ⟨rfl,hb3⟩;have HB3:=zE (hb2.trans (hb3.mono hb2.size));clear hb2 hb3;go_wp2_with fail;go_ret2;exact⟨by rw[HE.out,HV.out]; rfl,HB3.out⟩
   ·have HE:Hid (vx p b=zy b):=by show _=_; unfold vx; rw[if_pos h1,hv,if_neg h2]; rfl
    have HV:Hid (vH p b=⟨#[]⟩):=by show _=_; unfold vH; rw[if_neg (by rw[HE.out]; exact h2)]
    have h2':(zy b != 0)=true:=by simpa using h2
    clear h2;go_enter Tryz.func320,Tryz.ntmps320;go_wp2_with fail;refine (zV p hp _).mono ?_;rintro e w1 ⟨rfl,rfl⟩;rw[h1];clear h1;go_wp2_with fail;refine (k9 p _).mono ?_;rintro e w1 ⟨rfl,rfl⟩;rw[hv];clear hv;go_wp2_with fail;refine (zV b hb _).mono ?_;rintro e w1 ⟨rfl,rfl⟩;go_wp2_with fail;go_ret2;exact⟨by rw[HE.out,HV.out]; rfl,Below.refl _ _⟩
 ·have HE:Hid (vx p b=zy p):=by show _=_; unfold vx; rw[if_neg h1]
  have HV:Hid (vH p b=⟨#[]⟩):=by show _=_; unfold vH; rw[if_neg (by rw[HE.out]; exact h1)]
  have h1':(zy p != 0)=true:=by simpa using h1
  clear h1;go_enter Tryz.func320,Tryz.ntmps320;go_wp2_with fail;refine (zV p hp _).mono ?_;rintro e w1 ⟨rfl,rfl⟩;go_wp2_with fail;go_ret2;exact⟨by rw[HE.out,HV.out]; rfl,Below.refl _ _⟩
def jy (w:World) (v:Value) (l:List ByteArray):Prop:=
 (l=[]/\∃a cap,v=.slice a 0 cap)\/
 ∃b off cap,v=.slice (some ⟨b,off,none⟩) l.length cap/\l.length<=maxLen/\
  ∀i,i<l.length->w.cell? ⟨b,off+i,none⟩=some (.string (l.getD i .empty))/\(l.getD i .empty).size<=maxLen
theorem jy.later {w w':World} {v:Value} {l:List ByteArray} (h:jy w v l) (hb:Below w.heap.size w w'):jy w' v l:=by
 rcases h with h|⟨b,off,cap,hv,hm,hc⟩
 ·exact .inl h
 ·exact .inr ⟨b,off,cap,hv,hm,fun i hi=>⟨(hb.cell (World.block_lt_of_cell? _ _ (hc i hi).1)).trans (hc i hi).1,(hc i hi).2⟩⟩
theorem jy.some {w:World} {v:Value} {l:List ByteArray} (h:jy w v l) (hl:l≠[]):∃b off cap,v=.slice (some ⟨b,off,none⟩) l.length cap/\l.length<=maxLen/\
  ∀i,i<l.length->w.cell? ⟨b,off+i,none⟩=some (.string (l.getD i .empty))/\(l.getD i .empty).size<=maxLen:=by
 rcases h with h|h
 ·exact absurd h.1 hl
 ·exact h
theorem jy.slice {w:World} {v:Value} {l:List ByteArray} (h:jy w v l):∃a cap,v=.slice a l.length cap/\l.length<=maxLen:=by
 rcases h with ⟨rfl,a,cap,rfl⟩|⟨b,off,cap,rfl,hm,_⟩
 ·exact⟨a,cap,rfl,Nat.zero_le _⟩
 ·exact⟨_,cap,rfl,hm⟩
def zO:List ByteArray->List ByteArray->ByteArray->ByteArray×Int
 |p::ps,i::is,b=>if qQ p i b=0 then zO ps is (yj p i b) else (⟨#[]⟩,qQ p i b)
 |_,_,b=>(b,0)
theorem zd0 {ps is:List ByteArray} {k:Nat} {b:ByteArray} (hp:k<ps.length) (hi:k<is.length) (h:qQ (ps.getD k .empty) (is.getD k .empty) b=0) :
  zO (ps.drop k) (is.drop k) b=zO (ps.drop (k+1)) (is.drop (k+1)) (yj (ps.getD k .empty) (is.getD k .empty) b):=by
 rw[List.getD_eq_getElem?_getD,List.getElem?_eq_getElem hp,List.getD_eq_getElem?_getD,List.getElem?_eq_getElem hi] at h ⊢;simp only[Option.getD_some] at h ⊢;rw[List.drop_eq_getElem_cons hp,List.drop_eq_getElem_cons hi,zO,if_pos h]
theorem zcp {ps is:List ByteArray} {k:Nat} {b:ByteArray} (hp:k<ps.length) (hi:k<is.length) (h:qQ (ps.getD k .empty) (is.getD k .empty) b≠0) :
  zO (ps.drop k) (is.drop k) b=(⟨#[]⟩,qQ (ps.getD k .empty) (is.getD k .empty) b):=by
 rw[List.getD_eq_getElem?_getD,List.getElem?_eq_getElem hp,List.getD_eq_getElem?_getD,List.getElem?_eq_getElem hi] at h ⊢;simp only[Option.getD_some] at h ⊢;rw[List.drop_eq_getElem_cons hp,List.drop_eq_getElem_cons hi,zO,if_neg h]
theorem Yr (p i b:ByteArray):(yj p i b).size<=600:=by
 unfold yj
 split
 ·next h=>
  have h0:yK p i b=0:=by
   by_cases h0:yK p i b=0
   ·exact h0
   ·unfold qQ at h; rw[if_neg h0] at h; exact absurd h h0
  obtain⟨zp,zi,zb⟩:=VK h0;have zu:=Jj p i;unfold Va
  split
  ·omega
  ·exact zb
 ·exact Nat.zero_le _
theorem Vc:∀(ps is:List ByteArray) (b:ByteArray),b.size<=600->(zO ps is b).1.size<=600
 |[],_,b,h=>by simpa [zO] using h
 |_::_,[],b,h=>by simpa [zO] using h
 |p::ps,i::is,b,h=>by
  rw[zO]
  split
  ·exact Vc ps is _ (Yr _ _ _)
  ·exact Nat.zero_le _
theorem zaF (v u:Value) (ps is:List ByteArray) (w:World) (hv:jy w v ps) (hu:jy w u is) (hl:is.length=ps.length) :
  Calls Tryz.prog 319 #[v,u] w fun e w'=>e=.returned (.tuple #[.string (zO ps is ⟨#[]⟩).1,.int .i64 (zO ps is ⟨#[]⟩).2])/\Below w.heap.size w w':=by
 by_cases h0:ps=[]
 ·subst h0
  obtain⟨a,cap,rfl,_⟩:=hv.slice;obtain⟨a',cap',rfl,_⟩:=hu.slice;clear hv hu;go_enter Tryz.func319,Tryz.ntmps319
  go_wp2
  refine wp_loop_rounds 1 ?_;rw[rounds_succ]
  go_wp2
  go_ret2;exact⟨rfl,Below.refl _ _⟩
 ·obtain⟨b,off,cap,rfl,hm,hc⟩:=hv.some h0
  obtain⟨b',off',cap',rfl,_,hc'⟩:=hu.some (by intro e; rw[e] at hl; exact h0 (List.length_eq_zero_iff.1 hl.symm));unfold maxLen at hm;have HC:=zE hc;have HC':=zE hc';have HL:=zE hl;rw[hl];clear hv hu hc hc' h0;have hl0:is.length=ps.length:=HL.out;go_enter Tryz.func319,Tryz.ntmps319
  go_wp2
  go_loopw [6,13] (fun v i wr=>∃(k:Nat) (bk:ByteArray),k<=ps.length/\v=.string bk/\i=.int .i64 k/\bk.size<=600/\zO (ps.drop k) (is.drop k) bk=zO ps is ⟨#[]⟩/\Below w.heap.size w wr)
   (fun _ i _=>ps.length - (intOf i).toNat)
  case atStart=>exact⟨0,⟨#[]⟩,Nat.zero_le _,rfl,rfl,Nat.zero_le _,rfl,Below.refl _ _⟩
  case round=>
   obtain⟨k,bk,hk,rfl,rfl,hbk,hr,hbl⟩:=hrel
   by_cases hlt:k<ps.length
   ·obtain⟨c0,z0⟩:=HC.out k hlt
    obtain⟨c1,z1⟩:=HC'.out k (by omega);have d0:=(hbl.cell (World.block_lt_of_cell? _ _ c0)).trans c0;have d1:=(hbl.cell (World.block_lt_of_cell? _ _ c1)).trans c1;have HOk:=zE (@zd0 ps is k bk hlt (by omega));have HBad:=zE (@zcp ps is k bk hlt (by omega));have HR:=zE hr;have HBl:=zE hbl;clear c0 c1 hr hbl;generalize ps.getD k .empty=p at *;generalize is.getD k .empty=q at *;have HM:=zE (fun w=>zfq p q bk z0 z1 (by unfold maxLen; omega) w);have HZ:=zE (Yr p q bk)
    by_cases he:qQ p q bk=0
    ·have HOk:=zE (HOk.out he)
     clear HBad;go_wp2_with fail;refine (HM.out _).mono ?_;rintro e w1 ⟨rfl,hb1⟩;rw[he];have HB1:=zE (HBl.out.trans (hb1.mono HBl.out.size));clear hb1 HBl he HM;generalize yj p q bk=t at *;go_wp2_with fail
     go_roundw
     case rel=>exact⟨k+1,t,by omega,rfl,by go_num,HZ.out,by rw[<- HOk.out]; exact HR.out,HB1.out⟩
     case measure=>simp[intOf]; omega
    ·have HBad:=zE (HBad.out he)
     have he':(qQ p q bk != 0)=true:=by simpa using he
     clear HOk he;go_wp2_with fail;refine (HM.out _).mono ?_;rintro e w1 ⟨rfl,hb1⟩;have HB1:=zE (HBl.out.trans (hb1.mono HBl.out.size));clear hb1 HBl HM;go_wp2_with fail;go_ret2;exact⟨by rw[<- HR.out,HBad.out]; rfl,HB1.out⟩
   ·have HR:Hid (zO ps is ⟨#[]⟩=(bk,0)):=by
     show _=_;rw[<- hr,show k=ps.length by omega,List.drop_length,zO];simp
    have HBl:=zE hbl;clear hr hbl
    go_wp2
    go_ret2;exact⟨by rw[HR.out]; rfl,HBl.out⟩
def qS (ps is:List ByteArray) (r:ByteArray):Int:=
 if 8<ps.length\/8<is.length then 1 else if is.length=ps.length then
  (if (zO ps is ⟨#[]⟩).2=0 then (if zy r=0 then (if (zO ps is ⟨#[]⟩).1.toList==[]&&xM r then 8 else vx r (zO ps is ⟨#[]⟩).1) else zy r) else (zO ps is ⟨#[]⟩).2)
 else 6
def yw (ps is:List ByteArray) (r:ByteArray):ByteArray:=if qS ps is r=0 then vH r (zO ps is ⟨#[]⟩).1 else ⟨#[]⟩
theorem VL {ps is:List ByteArray} {r:ByteArray} (h:8<ps.length\/8<is.length):qS ps is r=1/\yw ps is r=⟨#[]⟩:=by
 have e:qS ps is r=1:=by unfold qS; rw[if_pos h]
 exact⟨e,by unfold yw; rw[if_neg (by rw[e]; decide)]⟩
theorem zcq {ps is:List ByteArray} {r:ByteArray} (h:¬(8<ps.length\/8<is.length)) (hl:is.length≠ps.length):qS ps is r=6/\yw ps is r=⟨#[]⟩:=by
 have e:qS ps is r=6:=by unfold qS; rw[if_neg h,if_neg hl]
 exact⟨e,by unfold yw; rw[if_neg (by rw[e]; decide)]⟩
theorem zcr {ps is:List ByteArray} {r:ByteArray} (h:¬(8<ps.length\/8<is.length)) (hl:is.length=ps.length) (he:(zO ps is ⟨#[]⟩).2≠0):qS ps is r=(zO ps is ⟨#[]⟩).2/\yw ps is r=⟨#[]⟩:=by
 have e:qS ps is r=(zO ps is ⟨#[]⟩).2:=by unfold qS; rw[if_neg h,if_pos hl,if_neg he]
 exact⟨e,by unfold yw; rw[if_neg (by rw[e]; exact he)]⟩
theorem zcs {ps is:List ByteArray} {r:ByteArray} (h:¬(8<ps.length\/8<is.length)) (hl:is.length=ps.length) (he:(zO ps is ⟨#[]⟩).2=0) (hk:zy r≠0):qS ps is r=zy r/\yw ps is r=⟨#[]⟩:=by
 have e:qS ps is r=zy r:=by unfold qS; rw[if_neg h,if_pos hl,if_pos he,if_neg hk]
 exact⟨e,by unfold yw; rw[if_neg (by rw[e]; exact hk)]⟩
theorem zct {ps is:List ByteArray} {r:ByteArray} (h:¬(8<ps.length\/8<is.length)) (hl:is.length=ps.length) (he:(zO ps is ⟨#[]⟩).2=0) (hk:zy r=0) (hb:((zO ps is ⟨#[]⟩).1.toList==[])=true) (hv:xM r=true):qS ps is r=8/\yw ps is r=⟨#[]⟩:=by
 have e:qS ps is r=8:=by unfold qS; rw[if_neg h,if_pos hl,if_pos he,if_pos hk,hb,hv]; rfl
 exact⟨e,by unfold yw; rw[if_neg (by rw[e]; decide)]⟩
theorem JS {ps is:List ByteArray} {r:ByteArray} (h:¬(8<ps.length\/8<is.length)) (hl:is.length=ps.length) (he:(zO ps is ⟨#[]⟩).2=0) (hk:zy r=0) (hb:((zO ps is ⟨#[]⟩).1.toList==[]&&xM r)=false):qS ps is r=vx r (zO ps is ⟨#[]⟩).1/\yw ps is r=vH r (zO ps is ⟨#[]⟩).1:=by
 have e:qS ps is r=vx r (zO ps is ⟨#[]⟩).1:=by unfold qS; rw[if_neg h,if_pos hl,if_pos he,if_pos hk,hb]; rfl
 refine⟨e,?_⟩;unfold yw
 split
 ·rfl
 ·next h0=>rw[e] at h0; unfold vH; rw[if_neg h0]
theorem zhJ (v u:Value) (ps is:List ByteArray) (r:ByteArray) (hr:r.size<=maxLen) (w:World) (hv:jy w v ps) (hu:jy w u is) :
  Calls Tryz.prog 301 #[v,u,.string r] w fun e w'=>e=.returned (.tuple #[.string (yw ps is r),.int .i64 (qS ps is r)])/\Below w.heap.size w w':=by
 have HV:=zE hv;have HU:=zE hu;obtain⟨a,cap,rfl,hm⟩:=hv.slice;obtain⟨a',cap',rfl,hm'⟩:=hu.slice;unfold maxLen at hm hm';clear hv hu
 by_cases h8:8<ps.length
 ·have HE:=zE (VL (ps:=ps) (is:=is) (r:=r) (.inl h8))
  have h8':(8:Int)<(ps.length:Int):=by omega
  go_enter Tryz.func301,Tryz.ntmps301
  go_wp2
  go_ret2;exact⟨by rw[HE.out.1,HE.out.2]; rfl,Below.refl _ _⟩
 have h8':¬(8:Int)<(ps.length:Int):=by omega
 by_cases h9:8<is.length
 ·have HE:=zE (VL (ps:=ps) (is:=is) (r:=r) (.inr h9))
  have h9':(8:Int)<(is.length:Int):=by omega
  go_enter Tryz.func301,Tryz.ntmps301
  go_wp2
  go_ret2;exact⟨by rw[HE.out.1,HE.out.2]; rfl,Below.refl _ _⟩
 have h9':¬(8:Int)<(is.length:Int):=by omega
 have hno:¬(8<ps.length\/8<is.length):=by omega
 by_cases hl:is.length=ps.length
 ·have hne:((ps.length:Int) != (is.length:Int))=false:=by simp[hl]
  have HM:=zE (fun w hv hu=>zaF (.slice a ps.length cap) (.slice a' is.length cap') ps is w hv hu hl);have zb:=Vc ps is ⟨#[]⟩ (Nat.zero_le _);have HNo:=zE hno;have HL:=zE hl;rw[hl] at HM ⊢;clear hno hl
  by_cases he:(zO ps is ⟨#[]⟩).2=0
  ·by_cases hk:zy r=0
   ·cases hb:((zO ps is ⟨#[]⟩).1.toList==[]) with
    |true=>
     cases hv:xM r with
     |true=>
      have HE:=zE (zct HNo.out HL.out he hk hb hv);go_enter Tryz.func301,Tryz.ntmps301;go_wp2_with fail;refine (HM.out _ HV.out (by have:=HU.out; rwa [HL.out] at this)).mono ?_;rintro e w1 ⟨rfl,hb1⟩;rw[he];have HB1:=zE hb1;clear hb1 HM HV HU HNo HL he;generalize (zO ps is ⟨#[]⟩).1=t at *;go_wp2_with fail;refine (zV r hr _).mono ?_;rintro e w2 ⟨rfl,rfl⟩;rw[hk];go_wp2_with fail;refine (k9 r _).mono ?_;rintro e w3 ⟨rfl,rfl⟩;rw[hv];go_wp2_with fail;go_ret2;exact⟨by rw[HE.out.1,HE.out.2]; rfl,HB1.out⟩
     |false=>
      have HE:=zE (JS HNo.out HL.out he hk (by rw[hb,hv]; rfl));go_enter Tryz.func301,Tryz.ntmps301;go_wp2_with fail;refine (HM.out _ HV.out (by have:=HU.out; rwa [HL.out] at this)).mono ?_;rintro e w1 ⟨rfl,hb1⟩;rw[he];have HB1:=zE hb1;clear hb1 HM HV HU HNo HL he;generalize (zO ps is ⟨#[]⟩).1=t at *;go_wp2_with fail;refine (zV r hr _).mono ?_;rintro e w2 ⟨rfl,rfl⟩;rw[hk];go_wp2_with fail;refine (k9 r _).mono ?_;rintro e w3 ⟨rfl,rfl⟩;rw[hv];go_wp2_with fail;refine (zcX r t hr (by unfold maxLen; omega) _).mono ?_;rintro e w4 ⟨rfl,hb4⟩;have HB4:=zE (HB1.out.trans (hb4.mono HB1.out.size));clear hb4;go_wp2_with fail;go_ret2;exact⟨by rw[HE.out.1,HE.out.2]; rfl,HB4.out⟩
    |false=>
     have HE:=zE (JS HNo.out HL.out he hk (by rw[hb]; rfl));go_enter Tryz.func301,Tryz.ntmps301;go_wp2_with fail;refine (HM.out _ HV.out (by have:=HU.out; rwa [HL.out] at this)).mono ?_;rintro e w1 ⟨rfl,hb1⟩;rw[he];have HB1:=zE hb1;clear hb1 HM HV HU HNo HL he;generalize (zO ps is ⟨#[]⟩).1=t at *;go_wp2_with fail;refine (zV r hr _).mono ?_;rintro e w2 ⟨rfl,rfl⟩;rw[hk];go_wp2_with fail;refine (zcX r t hr (by unfold maxLen; omega) _).mono ?_;rintro e w4 ⟨rfl,hb4⟩;have HB4:=zE (HB1.out.trans (hb4.mono HB1.out.size));clear hb4;go_wp2_with fail;go_ret2;exact⟨by rw[HE.out.1,HE.out.2]; rfl,HB4.out⟩
   ·have HE:=zE (zcs (r:=r) HNo.out HL.out he hk)
    have hk':(zy r != 0)=true:=by simpa using hk
    clear hk;go_enter Tryz.func301,Tryz.ntmps301;go_wp2_with fail;refine (HM.out _ HV.out (by have:=HU.out; rwa [HL.out] at this)).mono ?_;rintro e w1 ⟨rfl,hb1⟩;rw[he];have HB1:=zE hb1;clear hb1 HM HV HU HNo HL he;generalize (zO ps is ⟨#[]⟩).1=t at *;go_wp2_with fail;refine (zV r hr _).mono ?_;rintro e w2 ⟨rfl,rfl⟩;go_wp2_with fail;go_ret2;exact⟨by rw[HE.out.1,HE.out.2]; rfl,HB1.out⟩
  ·have HE:=zE (zcr (r:=r) HNo.out HL.out he)
   have he':((zO ps is ⟨#[]⟩).2 != 0)=true:=by simpa using he
   clear he;go_enter Tryz.func301,Tryz.ntmps301;go_wp2_with fail;refine (HM.out _ HV.out (by have:=HU.out; rwa [HL.out] at this)).mono ?_;rintro e w1 ⟨rfl,hb1⟩;have HB1:=zE hb1;clear hb1 HM HV HU HNo HL;go_wp2_with fail;go_ret2;exact⟨by rw[HE.out.1,HE.out.2]; rfl,HB1.out⟩
 ·have HE:=zE (zcq (r:=r) hno hl)
  have hne:((ps.length:Int) != (is.length:Int))=true:=by
   rw[bne_iff_ne]; omega
  go_enter Tryz.func301,Tryz.ntmps301
  go_wp2
  go_ret2;exact⟨by rw[HE.out.1,HE.out.2]; rfl,Below.refl _ _⟩
def xG (f:Fc) (s:ByteArray):Nat:=zj (fun k:Sg=>sEq k.name s) f.funcs
def zJ (f:Fc) (s:ByteArray):Sg:=(f.funcs[xG f s]?).getD ⟨⟨#[]⟩,[],⟨#[]⟩⟩
def yx (f:Fc) (s:ByteArray):Int:=if xG f s<f.funcs.length then 0 else 6
theorem zgO {f:Fc} {s:ByteArray} {k:Nat} (hk:k<f.funcs.length) (h:xG f s=k):zJ f s=f.funcs[k]/\yx f s=0:=by
 unfold zJ yx;rw[h,List.getElem?_eq_getElem hk,if_pos hk];exact⟨rfl,rfl⟩
theorem zcY {f:Fc} {s:ByteArray} (h:f.funcs.length<=xG f s):zJ f s=⟨⟨#[]⟩,[],⟨#[]⟩⟩/\yx f s=6:=by
 unfold zJ yx;rw[List.getElem?_eq_none h,if_neg (by omega)];exact⟨rfl,rfl⟩
theorem zcZ (S:Nat->Prop) (w:World):qB S w ⟨⟨#[]⟩,[],⟨#[]⟩⟩ (.agg #[.string ⟨#[]⟩,.slice none 0 0,.string ⟨#[]⟩]):=
 ⟨_,rfl,Nat.zero_le _,Nat.zero_le _,none,0,rfl,⟨by simp,by simp⟩,.inl rfl⟩
theorem zfr {B:Nat} {W:World} {g:Sg} {v:Value} (h:qB (fun b=>B<b/\b<W.heap.size) W g v) (u0 u1 u2:Value) :
  qB (fun b=>b<(((W.setCell ⟨B,0,none⟩ u0).setCell ⟨B,1,none⟩ u1).setCell ⟨B,2,none⟩ u2).heap.size) (((W.setCell ⟨B,0,none⟩ u0).setCell ⟨B,1,none⟩ u1).setCell ⟨B,2,none⟩ u2) g v:=by
 refine h.keep ⟨fun b hb=>?_,fun b hb=>?_⟩
 ·rw[Below.heap_setCell _ _ _ _ (by show b≠B; omega),Below.heap_setCell _ _ _ _ (by show b≠B; omega),Below.heap_setCell _ _ _ _ (by show b≠B; omega)]
 ·rw[xI,xI,xI]; exact hb.2
def jz:Sg:=⟨⟨#[]⟩,[],⟨#[]⟩⟩
def xq (c:Int):ByteArray×Int:=(⟨#[]⟩,c)
def kV (ps:List Kn) (s:ByteArray):Nat:=zj (fun k:Kn=>sEq k.name s) ps
def xV (ps:List Kn) (s:ByteArray):ByteArray×Int:=
 if kV ps s<ps.length then (((ps[kV ps s]?).map Kn.is).getD ⟨#[]⟩,0) else xq 6
def xf (k:Int) (sg:Sg) (is:List ByteArray):ByteArray×Int:=
 if k=4 then (if qS sg.params is sg.result=0 then (yw sg.params is sg.result,0) else xq 8)
 else if k=5 then (if sEq (is.getD 0 .empty) (is.getD 1 .empty)&&(sEq (is.getD 0 .empty) Qv||sEq (is.getD 0 .empty) ZB) then (is.getD 0 .empty,0) else xq 8)
 else if k=6 then (if is.all (fun i=>sEq i (is.getD 0 .empty)) then (if qq (is.getD 0 .empty)=0 then (yH (is.getD 0 .empty),0) else xq 8) else xq 8)
 else if zZ (is.getD 0 .empty)&&sEq (is.getD 1 .empty) Qv then (q6 (is.getD 0 .empty),0) else xq 8
def jZ (k:Int) (sg:Sg) (rs:List (ByteArray×Int)):ByteArray×Int:=
 if zt Prod.snd rs=0 then xf k sg (rs.map Prod.fst) else xq (zt Prod.snd rs)
def ZX (fc:ByteArray->Fc) (o s:ByteArray) (n:Nat):Int:=
 if yx (fc o) s=0 then (if (zJ (fc o) s).params.length=n then 0 else 7) else 6
mutual
def qk (ps:List Kn) (fc:ByteArray->Fc):Ex->ByteArray×Int
 |.mk k _ o s xs=>
  if k=1 then (Qv,0) else if k=2 then (ZB,0) else if k=3 then xV ps s else
  if k=4 then (if ZX fc o s xs.length=0 then jZ k (zJ (fc o) s) (vL ps fc xs) else xq (ZX fc o s xs.length))
  else jZ k jz (vL ps fc xs)
def vL (ps:List Kn) (fc:ByteArray->Fc):List Ex->List (ByteArray×Int)
 |[]=>[]
 |x::r=>qk ps fc x::vL ps fc r
end
theorem Xl (ps:List Kn) (fc:ByteArray->Fc):∀l:List Ex,vL ps fc l=l.map (qk ps fc)
 |[]=>by simp[vL]
 |x::r=>by simp only[vL,List.map_cons,Xl ps fc r]
theorem zbK {l:List Ex} {d:Nat} (h:xO l d=0):∀x∈l,zx x d=0:=by
 rw[ki] at h;intro x hx;obtain⟨j,hj,rfl⟩:=List.getElem_of_mem hx;exact qN _ _ h j hj
theorem Q7 {α β:Type} (g:β->Int) (f:α->β):∀l:List α,zt g (l.map f)=zt (fun x=>g (f x)) l
 |[]=>rfl
 |x::r=>by simp only[List.map_cons,zt,Q7 g f r]
theorem K9 {S:Nat->Prop} {w:World} {l:List ByteArray} {v:Value} (h:ze S (zG w) 1 l v):jy w v l:=by
 obtain⟨a,cap,rfl,hlen,h0⟩:=h
 rcases h0 with h0|⟨b,o,rfl,_,hr⟩
 ·exact Or.inl ⟨List.length_eq_zero_iff.1 h0,a,cap,by rw[h0]⟩
 ·refine Or.inr ⟨b,o,cap,rfl,hlen.1,fun i hi=>?_⟩
  have:=hr.get i hi;rw[List.getD_eq_getElem?_getD,List.getElem?_eq_getElem hi,Option.getD_some];simpa [zG] using this
theorem Jk {ps:List Kn} {s:ByteArray} (h:kV ps s<ps.length):xV ps s=((ps[kV ps s]'h).is,0):=by
 unfold xV;rw[if_pos h,List.getElem?_eq_getElem h]; rfl
theorem Yk {ps:List Kn} {s:ByteArray} (h:¬kV ps s<ps.length):xV ps s=xq 6:=by
 unfold xV;rw[if_neg h]
theorem zfs (p b:ByteArray):(vH p b).size<=600:=by
 unfold vH
 split
 ·next h=>
  have h0:zy p=0:=by
   by_cases h0:zy p=0
   ·exact h0
   ·unfold vx at h; rw[if_neg h0] at h; exact absurd h h0
  unfold vx at h;rw[if_pos h0] at h
  split
  ·next hv=>
   rw[if_pos hv] at h;have hs:=JR (b:=b) h0 hv
   split at h
   ·split at h
    ·cases h
    ·omega
   ·next hb=>exact absurd h hb
  ·exact vU h0
 ·exact Nat.zero_le _
theorem zft (ps is:List ByteArray) (r:ByteArray):(yw ps is r).size<=600:=by
 unfold yw
 split
 ·exact zfs _ _
 ·exact Nat.zero_le _
theorem zc0 {B:Nat} {l:List ByteArray} (h:∀t∈l,t.size<=B) (j:Nat):(l.getD j .empty).size<=B:=by
 rw[List.getD_eq_getElem?_getD]
 by_cases hj:j<l.length
 ·rw[List.getElem?_eq_getElem hj]
  exact h _ (List.getElem_mem hj)
 ·rw[List.getElem?_eq_none (by omega)]
  exact Nat.zero_le _
theorem zbL {s:ByteArray} (h:qq s=0):(yH s).size<=600:=by
 have:=(QE h).2;unfold yH;rw[ByteArray.size_append,ByteArray.size_append];show 1+s.size+1<=600;omega
theorem zgP {B:Nat} (hB:600<=B) {k:Int} {sg:Sg} {is:List ByteArray} (h:∀t∈is,t.size<=B):(xf k sg is).1.size<=B:=by
 unfold xf
 split
 ·split
  ·exact Nat.le_trans (zft _ _ _) hB
  ·exact Nat.zero_le _
 ·split
  ·split
   ·exact zc0 h 0
   ·exact Nat.zero_le _
  ·split
   ·split
    ·split
     ·next h1=>exact Nat.le_trans (zbL h1) hB
     ·exact Nat.zero_le _
    ·exact Nat.zero_le _
   ·split
    ·next h1=>
     rw[Bool.and_eq_true] at h1;have h2:=qo h1.1;have:=vg h2;have:=zc0 h 0;show (q6 _).size<=B;omega
    ·exact Nat.zero_le _
theorem zbM {B:Nat} (hB:600<=B) {k:Int} {sg:Sg} {rs:List (ByteArray×Int)} (h:∀r∈rs,r.1.size<=B):(jZ k sg rs).1.size<=B:=by
 unfold jZ
 split
 ·refine zgP hB fun t ht=>?_
  obtain⟨r,hr,rfl⟩:=List.mem_map.1 ht;exact h r hr
 ·exact Nat.zero_le _
theorem zgQ {B:Nat} {ps:List Kn} (hps:∀k∈ps,k.is.size<=B) (s:ByteArray):(xV ps s).1.size<=B:=by
 by_cases h:kV ps s<ps.length
 ·rw[Jk h]
  exact hps _ (List.getElem_mem h)
 ·rw[Yk h]
  exact Nat.zero_le _
mutual
theorem zc1 {B:Nat} (hB:600<=B) {ps:List Kn} {fc:ByteArray->Fc} (hps:∀k∈ps,k.is.size<=B):∀x:Ex,(qk ps fc x).1.size<=B
 |.mk k n o s xs=>by
  have hx:=zbN hB (fc:=fc) hps xs;rw[qk]
  split
  ·exact Nat.le_trans (by decide) hB
  ·split
   ·exact Nat.le_trans (by decide) hB
   ·split
    ·exact zgQ hps s
    ·split
     ·split
      ·exact zbM hB hx
      ·exact Nat.zero_le _
     ·exact zbM hB hx
theorem zbN {B:Nat} (hB:600<=B) {ps:List Kn} {fc:ByteArray->Fc} (hps:∀k∈ps,k.is.size<=B):∀l:List Ex,∀r∈vL ps fc l,r.1.size<=B
 |[]=>by simp[vL]
 |x::l=>by
  rw[vL];intro r hr
  rcases List.mem_cons.1 hr with e|e
  ·rw[e]; exact zc1 hB hps x
  ·exact zbN hB hps l r e
end
theorem Vd {B:Nat} (hB:600<=B) {ρ:ByteArray->ByteArray->Sol} (h:∀o n,(ρ o n).1.size<=B):∀(d:Nat) (t:Ty),(zo ρ d t).1.size<=B
 |0,_=>Nat.zero_le _
 |d+1,.mk k o n xs=>by
  unfold zo
  split
  ·exact Nat.le_trans (by decide) hB
  ·split
   ·exact Nat.le_trans (by decide) hB
   ·split
    ·cases xs with
     |nil=>exact Nat.zero_le _
     |cons t r=>
      show (yg (zo ρ d t)).1.size<=_;unfold yg
      split
      ·split
       ·rename_i hl
        exact Nat.le_trans (zbL hl) hB
       ·exact Nat.zero_le _
      ·exact Nat.zero_le _
    ·exact h o n
theorem zc2 {B:Nat} (hB:reachBytes<=B) {u:List ByteArray} {l:List Im} (hz:∀i∈l,zH i.face) (o n:ByteArray):(Xt u l o n).1.size<=B:=by
 show (jN u l o n).size<=_;unfold jN
 split
 ·unfold ja
  cases hk:(zK u l o).types[jf (zK u l o) n]? with
  |none=>exact Nat.zero_le _
  |some k=>
   have:=(Zx (u:=u) o hz).1.2 k (List.mem_of_getElem? hk);have h2:=this.2;show k.is.size<=_;omega
 ·exact Nat.zero_le _
theorem Vv {B:Nat} (h6:600<=B) (hB:reachBytes<=B) {m:Mo} {l:List Im} (hz:∀i∈l,zH i.face):∀(u:Nat) (v:ByteArray) (under:List ByteArray) (o n:ByteArray),(qD m l u v under o n).1.size<=B
 |0,v,under,o,n=>by
  unfold qD
  split
  ·split
   ·show (1:Nat)<=_
    omega
   ·split <;> exact Nat.zero_le _
  ·exact zc2 hB hz o n
 |u+1,v,under,o,n=>by
  unfold qD
  split
  ·split
   ·show (1:Nat)<=_
    omega
   ·cases m.types[zq m n]? with
    |none=>exact Nat.zero_le _
    |some f=>
     simp only
     split
     ·exact Nat.zero_le _
     ·exact Vd h6 (fun o n=>Vv h6 hB hz u _ _ o n) 10 _
  ·exact zc2 hB hz o n
theorem zhK {m:Mo} {l:List Im} (hz:∀i∈l,zH i.face) (vv:ByteArray) (t:Ty):(xL m l vv t).1.size<=281474976710656:=by
 have hr:=reachBytes_lt;exact Vd (by omega) (fun o n=>Vv (by omega) (by omega) hz _ _ _ o n) 10 t
theorem zid {o:ByteArray} (h:o.toList.isEmpty=true):qv o=true:=by
 unfold qv;rw[Lib.toList_data] at h
 cases hd:o.data.toList with
 |nil=>rfl
 |cons a b=>rw[hd] at h; cases h
theorem zie {o:ByteArray} (h:o.toList.isEmpty=false):qv o=false:=by
 unfold qv;rw[Lib.toList_data] at h
 cases hd:o.data.toList with
 |nil=>rw[hd] at h; cases h
 |cons a b=>rfl
theorem JT {S:Nat->Prop} {w:World} {g:Sg} {a:Option Addr} {n c:Nat} (h:qB S w g (.agg #[.string g.name,.slice a n c,.string g.result])):n=g.params.length/\g.result.size<=maxLen/\ze S (zG w) 1 g.params (.slice a n c):=by
 obtain⟨vp,hve,_,h2,h3⟩:=h;have e:vp=.slice a n c:=by
  injection hve with hve
  have h1:[Value.string g.name,.slice a n c,.string g.result]=[.string g.name,vp,.string g.result]:=congrArg Array.toList hve;injection h1 with _ h1
  injection h1 with h1 _
  exact h1.symm
 subst e;obtain⟨a',c',e'⟩:=h3.is;injection e' with _ e'
 exact⟨e',h2,h3⟩
theorem zbO {k num:Int} {o s:ByteArray} {xs:List Ex} {d:Nat} (h:zx (.mk k num o s xs) d=0):¬10<d/\qj k 1 7=true/\¬8<xs.length/\xl k o s=true/\qe k xs.length=true/\xO xs (d+1)=0:=by
 rw[zx] at h
 by_cases h1:10<d
 ·rw[if_pos h1] at h; cases h
 rw[if_neg h1] at h
 cases h2:qj k 1 7
 ·rw[if_pos h2] at h; cases h
 rw[if_neg (by rw[h2]; decide)] at h
 by_cases h3:8<xs.length
 ·rw[if_pos h3] at h; cases h
 rw[if_neg h3] at h
 by_cases h4:(num≠0/\k≠1)\/xl k o s=false\/qe k xs.length=false
 ·rw[if_pos h4] at h; cases h
 rw[if_neg h4] at h
 split at h
 ·cases h
 ·exact⟨h1,rfl,h3,by simpa using fun e=>h4 (Or.inr (Or.inl e)),by simpa using fun e=>h4 (Or.inr (Or.inr e)),h⟩
abbrev vy (m:Mo) (l:List Im) (own:Fc):ByteArray->Fc:=fun o=>if qv o=true then own else zK m.uses l o
abbrev jk (ps:List Kn) (fc:ByteArray->Fc) (x:Ex) (W:World):Ending->World->Prop:=fun e w'=>e=.returned (.tuple #[.string (qk ps fc x).1,.int .i64 (qk ps fc x).2])/\Below W.heap.size W w'
end Go.Proofs.YtedpiamfpbdhoaaGreatDoor
