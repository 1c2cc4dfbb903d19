import Derived.Test.YtedpiamfpbdhoaaGreatDoorJFg6
import Derived.Test.YtedpiamfpbdhoaaGreatDoorJFg4
set_option maxHeartbeats 40000000
set_option maxRecDepth 100000
namespace Go.Proofs.YtedpiamfpbdhoaaGreatDoor
open Go.RowKit
def Vk (p:Int->Bool) (s:ByteArray):Nat->Nat->Nat
 |0,i=>i
 |f+1,i=>if i<s.size/\p (zz s i)=true then Vk p s f (i+1) else i
def qH (p:Int->Bool) (s:ByteArray) (i:Nat):Nat:=Vk p s (s.size - i) i
theorem Jr (p:Int->Bool) (s:ByteArray):∀(f i:Nat),i<=s.size->s.size - i<=f->XO (fun j=>p (zz s j)) s.size i (Vk p s f i)
 |0,i,h,hf=>⟨Nat.le_refl _,h,fun j h1 h2=>absurd h2 (by simp only[Vk]; omega),fun h3=>absurd h3 (by simp only[Vk]; omega)⟩
 |f+1,i,h,hf=>by
  unfold Vk
  by_cases hc:i<s.size/\p (zz s i)=true
  ·rw[if_pos hc]
   obtain⟨a,b,c,d⟩:=Jr p s f (i+1) (by omega) (by omega);refine⟨by omega,b,fun j h1 h2=>?_,d⟩
   by_cases e:j=i
   ·rw[e]; exact hc.2
   ·exact c j (by omega) h2
  ·rw[if_neg hc]
   refine⟨Nat.le_refl _,h,fun j h1 h2=>absurd h2 (by omega),fun h3=>?_⟩
   cases e:p (zz s i) with
   |false=>exact e
   |true=>exact absurd ⟨h3,e⟩ hc
theorem yA (p:Int->Bool) (s:ByteArray) (i:Nat) (h:i<=s.size):XO (fun j=>p (zz s j)) s.size i (qH p s i):=Jr p s _ i h (Nat.le_refl _)
theorem zaZ {p:Nat->Bool} {n a k k':Nat} (h:XO p n a k) (h':XO p n a k'):k=k':=by
 obtain⟨h1,h2,h3,h4⟩:=h;obtain⟨g1,g2,g3,g4⟩:=h'
 rcases Nat.lt_trichotomy k k' with hlt|he|hgt
 ·have a:=h4 (by omega)
  rw[g3 k h1 hlt] at a
  cases a
 ·exact he
 ·have a:=g4 (by omega)
  rw[h3 k' g1 hgt] at a
  cases a
theorem zf7 {p:Int->Bool} {s:ByteArray} {a k:Nat} (ha:a<=s.size) (h:XO (fun j=>p (zz s j)) s.size a k):k=qH p s a:=zaZ h (yA p s a ha)
def yS (b:Int):Bool:=b != 34
def v6 (b:Int):Bool:=b==32
def xA (s:ByteArray) (i:Nat):Option ((Int×ByteArray)×Nat):=
 if zz s i=34 then
  (if qH yS s (i+1)=s.size then none else some ((3,s.extract (i+1) (qH yS s (i+1))),qH yS s (i+1)+1))
 else if xj (zz s i)=true then some ((1,s.extract i (qH qE s i)),qH qE s i)
 else if xt (zz s i)=true then some ((2,s.extract i (qH qE s i)),qH qE s i)
 else some ((4,s.extract i (i+1)),i+1)
theorem xR (s:ByteArray) (a b:Nat):(s.extract a b).size<=s.size:=by
 rw[ByteArray.size_extract]; omega
theorem KG {p:Int->Bool} {s:ByteArray} {i:Nat} (hi:i<s.size) (hp:p (zz s i)=true):i<qH p s i:=by
 obtain⟨h1,h2,h3,h4⟩:=yA p s i (by omega)
 rcases Nat.lt_or_ge i (qH p s i) with h|h
 ·exact h
 ·have e:qH p s i=i:=by omega
  rw[e] at h4;have h5:p (zz s i)=false:=h4 hi;rw[hp] at h5
  cases h5
theorem Qz {s:ByteArray} {i:Nat} {t:Int×ByteArray} {e:Nat} (hi:i<s.size) (h:xA s i=some (t,e)):i<e/\e<=s.size/\t.2.size<=s.size:=by
 unfold xA at h;have hle:=fun (p:Int->Bool) (a:Nat) (ha:a<=s.size)=>(yA p s a ha).2.1
 split at h
 ·split at h
  ·cases h
  ·rename_i hne
   simp only[Option.some.injEq,Prod.mk.injEq] at h;obtain⟨rfl,rfl⟩:=h;have h1:=hle yS (i+1) (by omega);have h2:=(yA yS s (i+1) (by omega)).1;exact⟨by omega,by omega,xR _ _ _⟩
 ·split at h
  ·rename_i hl
   simp only[Option.some.injEq,Prod.mk.injEq] at h;obtain⟨rfl,rfl⟩:=h;exact⟨KG hi (by simp[qE,hl]),hle qE i (by omega),xR _ _ _⟩
  ·split at h
   ·rename_i hd
    simp only[Option.some.injEq,Prod.mk.injEq] at h;obtain⟨rfl,rfl⟩:=h;exact⟨KG hi (by simp[qE,hd]),hle qE i (by omega),xR _ _ _⟩
   ·simp only[Option.some.injEq,Prod.mk.injEq] at h
    obtain⟨rfl,rfl⟩:=h;exact⟨by omega,by omega,xR _ _ _⟩
def kI (s:ByteArray):Nat->Nat->Option (List (Int×ByteArray))
 |0,_=>some []
 |f+1,i=>
  if i<s.size then
   (if zz s i=32 then kI s f (i+1)
    else match xA s i with
    |none=>none
    |some (t,e)=>if yp t=0 then (kI s f e).map (t::·) else none)
  else some []
def qV (s:ByteArray) (i:Nat):Option (List (Int×ByteArray)):=kI s (s.size - i) i
theorem Qi (s:ByteArray) (i:Nat) (h:¬i<s.size):∀f,kI s f i=some []
 |0=>rfl
 |f+1=>by unfold kI; rw[if_neg h]
theorem Z0 (s:ByteArray):∀(f g i:Nat),s.size - i<=f->s.size - i<=g->kI s f i=kI s g i
 |0,g,i,hf,_=>by rw[Qi s i (by omega),Qi s i (by omega)]
 |f+1,0,i,_,hg=>by rw[Qi s i (by omega),Qi s i (by omega)]
 |f+1,g+1,i,hf,hg=>by
  unfold kI
  by_cases hi:i<s.size
  ·rw[if_pos hi,if_pos hi]
   by_cases hb:zz s i=32
   ·rw[if_pos hb,if_pos hb]
    exact Z0 s f g (i+1) (by omega) (by omega)
   ·rw[if_neg hb,if_neg hb]
    cases hn:xA s i with
    |none=>rfl
    |some te=>
     obtain⟨t,e⟩:=te;have hbd:=Qz hi hn;show (if yp t=0 then (kI s f e).map (t::·) else none)=(if yp t=0 then (kI s g e).map (t::·) else none);rw[Z0 s f g e (by omega) (by omega)]
  ·rw[if_neg hi,if_neg hi]
theorem zdk {s:ByteArray} {i:Nat} (h:¬i<s.size):qV s i=some []:=Qi s i h _
theorem QA {s:ByteArray} {i:Nat} (hi:i<s.size):qV s i =
  (if zz s i=32 then qV s (i+1) else match xA s i with
   |none=>none
   |some (t,e)=>if yp t=0 then (qV s e).map (t::·) else none):=by
 unfold qV;obtain⟨f,hf⟩:∃f,s.size - i=f+1:=⟨s.size - i - 1,by omega⟩
 rw[hf]
 conv=>lhs; unfold kI
 rw[if_pos hi]
 by_cases hb:zz s i=32
 ·rw[if_pos hb,if_pos hb]
  exact Z0 s _ _ _ (by omega) (by omega)
 ·rw[if_neg hb,if_neg hb]
  cases hn:xA s i with
  |none=>rfl
  |some te=>
   obtain⟨t,e⟩:=te;have hbd:=Qz hi hn;show (if yp t=0 then (kI s f e).map (t::·) else none)=(if yp t=0 then (kI s (s.size - e) e).map (t::·) else none);rw[Z0 s f (s.size - e) e (by omega) (by omega)]
theorem zb1 {s:ByteArray} {i:Nat} (hi:i<s.size) (hb:zz s i=32):qV s i=qV s (i+1):=by
 rw[QA hi,if_pos hb]
theorem zdl {s:ByteArray} {i:Nat} (hi:i<s.size) (hb:zz s i≠32) (hn:xA s i=none):qV s i=none:=by
 rw[QA hi,if_neg hb,hn]
theorem zew {s:ByteArray} {i:Nat} {t:Int×ByteArray} {e:Nat} (hi:i<s.size) (hb:zz s i≠32) (hn:xA s i=some (t,e)) (hf:yp t≠0):qV s i=none:=by
 rw[QA hi,if_neg hb,hn];exact if_neg hf
theorem zdm {s:ByteArray} {i:Nat} {t:Int×ByteArray} {e:Nat} (hi:i<s.size) (hb:zz s i≠32) (hn:xA s i=some (t,e)) (hf:yp t=0):qV s i=(qV s e).map (t::·):=by
 rw[QA hi,if_neg hb,hn];exact if_pos hf
theorem Js {s:ByteArray} {k:Nat}:∀(d a:Nat),a+d=k->k<=s.size->(∀j,a<=j->j<k->zz s j=32)->qV s a=qV s k
 |0,a,h,_,_=>by rw[<- h]; rfl
 |d+1,a,h,hk,hall=>by
  rw[zb1 (by omega) (hall a (Nat.le_refl _) (by omega))];exact Js d (a+1) (by omega) hk fun j h1 h2=>hall j (by omega) h2
theorem KH {s:ByteArray} {a:Nat} (ha:a<=s.size):qV s (qH v6 s a)=qV s a:=by
 obtain⟨h1,h2,h3,_⟩:=yA v6 s a ha;refine (Js (qH v6 s a - a) a (by omega) h2 fun j g1 g2=>?_).symm;have:=h3 j g1 g2;simpa [v6] using this
def yq (s:ByteArray):Int:=
 if 1500<s.size then 1 else match qV s 0 with
  |none=>4
  |some l=>if 200<l.length then 1 else 0
def xB (s:ByteArray):List (Int×ByteArray):=
 if 1500<s.size then [] else match qV s 0 with
  |none=>[]
  |some l=>if 200<l.length then [] else l
def YG:Prop:=∀(s:ByteArray) (w:World),s.size<=281474976710656->Calls Tryz.prog 57 #[.string s] w fun e w'=>e=.returned (.string s)/\Below w.heap.size w w'
theorem Z1 (hcl:YG) (k:Int) (t:ByteArray) (ht:t.size<=281474976710656) (w:World) :
  Calls Tryz.prog 233 #[.int .i64 k,.string t] w fun e w'=>e=.returned (.agg #[.int .i64 k,.string t])/\Below w.heap.size w w':=by
 go_enter Tryz.func233,Tryz.ntmps233;go_wp2_with fail;refine (hcl t _ ht).mono ?_;rintro e w1 ⟨rfl,hb⟩;have c0:=hb.cell (p:=⟨w.heap.size,0,none⟩) (by simp);have c1:=hb.cell (p:=⟨w.heap.size,1,none⟩) (by simp);have f0:=hb.frozen (p:=⟨w.heap.size,0,none⟩) (by simp);have f1:=hb.frozen (p:=⟨w.heap.size,1,none⟩) (by simp);simp[World.cell?_alloc_at,World.frozen?_alloc_at] at c0 c1 f0 f1;have hz:w.heap.size<w1.heap.size:=by have:=hb.size; simp at this; omega
 have HB:=zd hb;clear hb
 go_wp2
 have q0:((w1.setCell ⟨w.heap.size,0,none⟩ (.int .i64 k)).setCell ⟨w.heap.size,1,none⟩ (.string t)).cell? ⟨w.heap.size,0,none⟩=some (.int .i64 k):=by
  rw[World.cell?_setCell_other _ _ _ _ (by intro h; injection h; omega)];exact World.cell?_setCell_same _ _ _ c0
 have q1:((w1.setCell ⟨w.heap.size,0,none⟩ (.int .i64 k)).setCell ⟨w.heap.size,1,none⟩ (.string t)).cell? ⟨w.heap.size,1,none⟩=some (.string t):=by
  refine World.cell?_setCell_same _ _ _ (u:=.string ⟨#[]⟩) ?_;rw[World.cell?_setCell_other _ _ _ _ (by intro h; injection h; omega)];exact c1
 have hbb:=(((Below.refl w.heap.size w).alloc (Nat.le_refl _) _).trans (HB.out.mono (by simp))).setCell (p:=⟨w.heap.size,0,none⟩) (Nat.le_refl _) (.int .i64 k);exact bodyPost_ret (v:=.agg #[.int .i64 k,.string t]) (by simp[results,Tryz.results233,go_sem,q0,q1]) rfl ⟨rfl,hbb.setCell (p:=⟨w.heap.size,1,none⟩) (Nat.le_refl _) (.string t)⟩
theorem za0 (b:Int) (w:World):Calls Tryz.prog 232 #[.int .u8 b] w fun e w'=>e=.returned (.bool (yS b))/\w=w':=by
 go_enter Tryz.func232,Tryz.ntmps232
 go_wp2
 go_ret;exact⟨rfl,rfl⟩
theorem QR (g:Nat) (eg:∀args w,(callFunc g args).run Tryz.prog w=.ok (.enter g args) w) (q:Int->Bool) (hq:∀(b:Int) (w:World),Calls Tryz.prog g #[.int .u8 b] w fun e w'=>e=.returned (.bool (q b))/\w=w')
  (s:ByteArray) (hs:s.size<=maxLen) (B:Nat) (a:Int) (h0:0<=a) (h1:a<=s.size) (w:World) (hc:w.cell? ⟨B,0,none⟩=some (.string s)) :
  Calls Tryz.prog 231 #[.int .i64 a,.func (.func g) #[] #[],.pointer (some ⟨B,0,none⟩)] w fun e w'=>e=.returned (.int .i64 (qH q s a.toNat))/\w=w':=by
 refine (zcA g #[] eg s hs (fun j=>q (zz s j)) (fun _ W=>w=W) B ?_ a ?_ h0 h1 w rfl).mono ?_
 ·rintro k W rfl
  exact hc
 ·rintro k hk W _ _ rfl
  refine (hq _ _).mono ?_;rintro e w' ⟨rfl,rfl⟩;exact⟨by rw[kh],rfl⟩
 ·rintro e w' ⟨k,rfl,hk,_,h⟩
  exact⟨by rw[zf7 (by omega) hk],h⟩
def qm (s:ByteArray) (i:Nat):(Int×ByteArray)×Nat:=(xA s i).getD ((0,⟨#[]⟩),s.size)
theorem Vl {w1:World} {b:Nat} {x y:Value} (u v:Value) (c0:w1.cell? ⟨b,0,none⟩=some x) (c1:w1.cell? ⟨b,1,none⟩=some y) :
  ((w1.setCell ⟨b,0,none⟩ u).setCell ⟨b,1,none⟩ v).cell? ⟨b,0,none⟩=some u/\((w1.setCell ⟨b,0,none⟩ u).setCell ⟨b,1,none⟩ v).cell? ⟨b,1,none⟩=some v:=by
 constructor
 ·rw[World.cell?_setCell_other _ _ _ _ (by intro h; injection h; omega)]
  exact World.cell?_setCell_same _ _ _ c0
 ·refine World.cell?_setCell_same _ _ _ (u:=y) ?_
  rw[World.cell?_setCell_other _ _ _ _ (by intro h; injection h; omega)];exact c1
theorem Xc {w w1:World} {x y:Value} {c:Array Value} {t:TypeId} (hb:Below ((w.alloc (.cells #[x,y] 179)).alloc (.cells c t)).heap.size ((w.alloc (.cells #[x,y] 179)).alloc (.cells c t)) w1) :
  w1.cell? ⟨w.heap.size,0,none⟩=some x/\w1.cell? ⟨w.heap.size,1,none⟩=some y/\w1.frozen? ⟨w.heap.size,0,none⟩=false/\w1.frozen? ⟨w.heap.size,1,none⟩=false/\w.heap.size<w1.heap.size/\Below w.heap.size w w1:=by
 have c0:=hb.cell (p:=⟨w.heap.size,0,none⟩) (by simp; omega);have c1:=hb.cell (p:=⟨w.heap.size,1,none⟩) (by simp; omega);have f0:=hb.frozen (p:=⟨w.heap.size,0,none⟩) (by simp; omega);have f1:=hb.frozen (p:=⟨w.heap.size,1,none⟩) (by simp; omega);rw[World.cell?_alloc_past _ _ _ (by simp),World.cell?_alloc_at _ _ _ _ rfl] at c0 c1;rw[World.frozen?_alloc_past _ _ _ (by simp),World.frozen?_alloc_at _ _ _ _ rfl] at f0 f1;refine⟨c0,c1,f0,f1,?_,?_⟩
 ·have:=hb.size; simp at this; omega
 ·exact (((Below.refl w.heap.size w).alloc (Nat.le_refl _) _).alloc (by simp) _).trans (hb.mono (by simp; omega))
theorem Xd {w w1:World} (u v:Value) (h:Below w.heap.size w w1):Below w.heap.size w ((w1.setCell ⟨w.heap.size,0,none⟩ u).setCell ⟨w.heap.size,1,none⟩ v):=
 (h.setCell (p:=⟨w.heap.size,0,none⟩) (Nat.le_refl _) u).setCell (p:=⟨w.heap.size,1,none⟩) (Nat.le_refl _) v
theorem zf8 {s:ByteArray} {i E:Nat} (h:zz s i=34) (hE:qH yS s (i+1)=E) (he:E=s.size):qm s i=((0,⟨#[]⟩),E):=by
 simp only[qm,xA,if_pos h,hE,he,if_true,Option.getD_none]
theorem zex {s:ByteArray} {i E:Nat} (h:zz s i=34) (hE:qH yS s (i+1)=E) (he:E≠s.size):qm s i=((3,s.extract (i+1) E),E+1):=by
 simp only[qm,xA,if_pos h,hE,if_neg he,Option.getD_some]
theorem zf9 {s:ByteArray} {i E:Nat} (h:zz s i≠34) (hl:xj (zz s i)=true) (hE:qH qE s i=E):qm s i=((1,s.extract i E),E):=by
 simp only[qm,xA,if_neg h,if_pos hl,hE,Option.getD_some]
theorem zhg {s:ByteArray} {i E:Nat} (h:zz s i≠34) (hl:xj (zz s i)=false) (hd:xt (zz s i)=true) (hE:qH qE s i=E):qm s i=((2,s.extract i E),E):=by
 simp only[qm,xA,if_neg h,hl,hd,hE,Option.getD_some,Bool.false_eq_true,if_false,if_true]
theorem zga {s:ByteArray} {i:Nat} (h:zz s i≠34) (hl:xj (zz s i)=false) (hd:xt (zz s i)=false):qm s i=((4,s.extract i (i+1)),i+1):=by
 simp only[qm,xA,if_neg h,hl,hd,Option.getD_some,Bool.false_eq_true,if_false]
theorem zb2 (hcl:YG) (s:ByteArray) (hs:s.size<=1500) (i:Nat) (hi:i<s.size) (w:World) :
  Calls Tryz.prog 161 #[.string s,.int .i64 i] w fun e w'=>e=.returned (.tuple #[.agg #[.int .i64 (qm s i).1.1,.string (qm s i).1.2],.int .i64 (qm s i).2])/\Below w.heap.size w w':=by
 have HM:Hid (s.size<=maxLen):=by show _<=_; unfold maxLen; omega
 have HB:=zd (kh s i hi);have hc:((w.alloc (.cells #[.int .i64 0,.string ⟨#[]⟩] 179)).alloc (.cells #[.string s] 9)).cell? ⟨w.heap.size+1,0,none⟩=some (.string s):=by
  rw[World.cell?_alloc_at _ _ _ _ (by simp)]; rfl
 by_cases h34:(((s[i]'hi).toNat:Int)==34)=true
 ·have hr:=QR 232 (enters_of Tryz.func232 (by kernel_rfl) rfl) yS za0 s HM.out (w.heap.size+1) ((i:Int)+1) (by omega) (by omega) _ hc
  rw[show ((i:Int)+1).toNat=i+1 from by omega] at hr;have h34':zz s i=34:=by rw[<- HB.out]; simpa using h34
  obtain⟨e1,e2,_,_⟩:=yA yS s (i+1) (by omega);have HO:=zd (@zf8 s i (qH yS s (i+1)) h34' rfl);have HQ:=zd (@zex s i (qH yS s (i+1)) h34' rfl);clear h34';generalize qH yS s (i+1)=E at *
  by_cases hE:E=s.size
  ·have hE':((E:Int)==(s.size:Int))=true:=by simp[hE]
   have HA:=zd (HO.out hE);clear HO HQ hE;go_enter Tryz.func161,Tryz.ntmps161;go_wp2_with (go_at_call 159; refine (j3 _ _).mono ?_; rintro e w' ⟨rfl,rfl⟩);refine hr.mono ?_;rintro e w' ⟨rfl,rfl⟩;clear hr
   go_wp2
   exact bodyPost_ret (v:=.tuple #[.agg #[.int .i64 0,.string ⟨#[]⟩],.int .i64 E]) (by simp[results,Tryz.results161,go_sem]) rfl
    ⟨by rw[HA.out],((Below.refl w.heap.size w).alloc (Nat.le_refl _) _).alloc (by simp) _⟩
  ·have hE':((E:Int)==(s.size:Int))=false:=by rw[beq_eq_false_iff_ne]; omega
   have hlt:E<s.size:=by omega
   have HA:=zd (HQ.out hE);clear HO HQ hE;go_enter Tryz.func161,Tryz.ntmps161;go_wp2_with (go_at_call 159; refine (j3 _ _).mono ?_; rintro e w' ⟨rfl,rfl⟩);refine hr.mono ?_;rintro e w' ⟨rfl,rfl⟩;clear hr;go_wp2_with fail;refine (Z1 hcl 3 (s.extract (i+1) E) (by have:=xR s (i+1) E; omega) _).mono ?_;rintro e w1 ⟨rfl,hb⟩;obtain⟨c0,c1,f0,f1,hz,hbb⟩:=Xc hb;clear hb;have HBB:=zd hbb;have Q2:=zd (Vl (.int .i64 3) (.string (s.extract (i+1) E)) c0 c1);clear hbb
   go_wp2
   obtain⟨q0,q1⟩:=Q2.out;exact bodyPost_ret (v:=.tuple #[.agg #[.int .i64 3,.string (s.extract (i+1) E)],.int .i64 ((E:Int)+1)]) (by simp[results,Tryz.results161,go_sem,q0,q1]) rfl
    ⟨by rw[HA.out]; simp,Xd _ _ HBB.out⟩
 ·have h34':(((s[i]'hi).toNat:Int)==34)=false:=by simpa using h34
  have hne:zz s i≠34:=by rw[<- HB.out]; simpa using h34
  clear h34
  by_cases hl:xj (zz s i)=true
  ·have hr:=QR 223 (enters_of Tryz.func223 (by kernel_rfl) rfl) qE QJ s HM.out (w.heap.size+1) (i:Int) (by omega) (by omega) _ hc
   rw[Int.toNat_natCast] at hr;have hl':xj ((s[i]'hi).toNat:Int)=true:=by rw[HB.out]; exact hl
   have HA:=zd (@zf9 s i (qH qE s i) hne hl rfl);obtain⟨e1,e2,_,_⟩:=yA qE s i (by omega);clear hne hl;generalize qH qE s i=E at *;go_enter Tryz.func161,Tryz.ntmps161;go_wp2_with (first|(go_at_call 159; refine (j3 _ _).mono ?_; rintro e w' ⟨rfl,rfl⟩)|(go_at_call 221; refine (jC _ _).mono ?_; rintro e w' ⟨rfl,rfl⟩));refine hr.mono ?_;rintro e w' ⟨rfl,rfl⟩;clear hr;go_wp2_with fail;refine (Z1 hcl 1 (s.extract i E) (by have:=xR s i E; omega) _).mono ?_;rintro e w1 ⟨rfl,hb⟩;obtain⟨c0,c1,f0,f1,hz,hbb⟩:=Xc hb;clear hb;have HBB:=zd hbb;have Q2:=zd (Vl (.int .i64 1) (.string (s.extract i E)) c0 c1);clear hbb
   go_wp2
   obtain⟨q0,q1⟩:=Q2.out;exact bodyPost_ret (v:=.tuple #[.agg #[.int .i64 1,.string (s.extract i E)],.int .i64 E]) (by simp[results,Tryz.results161,go_sem,q0,q1]) rfl
    ⟨by rw[HA.out],Xd _ _ HBB.out⟩
  ·have hlf:xj (zz s i)=false:=by simpa using hl
   have hl':xj ((s[i]'hi).toNat:Int)=false:=by rw[HB.out]; exact hlf
   clear hl
   by_cases hd:xt (zz s i)=true
   ·have hr:=QR 223 (enters_of Tryz.func223 (by kernel_rfl) rfl) qE QJ s HM.out (w.heap.size+1) (i:Int) (by omega) (by omega) _ hc
    rw[Int.toNat_natCast] at hr;have hd':xt ((s[i]'hi).toNat:Int)=true:=by rw[HB.out]; exact hd
    have HA:=zd (@zhg s i (qH qE s i) hne hlf hd rfl);obtain⟨e1,e2,_,_⟩:=yA qE s i (by omega);clear hne hd hlf;generalize qH qE s i=E at *;go_enter Tryz.func161,Tryz.ntmps161;go_wp2_with (first|(go_at_call 159; refine (j3 _ _).mono ?_; rintro e w' ⟨rfl,rfl⟩)|(go_at_call 221; refine (jC _ _).mono ?_; rintro e w' ⟨rfl,rfl⟩)|(go_at_call 234; refine (Qd _ _).mono ?_; rintro e w' ⟨rfl,rfl⟩));refine hr.mono ?_;rintro e w' ⟨rfl,rfl⟩;clear hr;go_wp2_with fail;refine (Z1 hcl 2 (s.extract i E) (by have:=xR s i E; omega) _).mono ?_;rintro e w1 ⟨rfl,hb⟩;obtain⟨c0,c1,f0,f1,hz,hbb⟩:=Xc hb;clear hb;have HBB:=zd hbb;have Q2:=zd (Vl (.int .i64 2) (.string (s.extract i E)) c0 c1);clear hbb
    go_wp2
    obtain⟨q0,q1⟩:=Q2.out;exact bodyPost_ret (v:=.tuple #[.agg #[.int .i64 2,.string (s.extract i E)],.int .i64 E]) (by simp[results,Tryz.results161,go_sem,q0,q1]) rfl
     ⟨by rw[HA.out],Xd _ _ HBB.out⟩
   ·have hdf:xt (zz s i)=false:=by simpa using hd
    have hd':xt ((s[i]'hi).toNat:Int)=false:=by rw[HB.out]; exact hdf
    have HA:=zd (@zga s i hne hlf hdf);clear hne hd hlf hdf;go_enter Tryz.func161,Tryz.ntmps161;go_wp2_with (first|(go_at_call 159; refine (j3 _ _).mono ?_; rintro e w' ⟨rfl,rfl⟩)|(go_at_call 221; refine (jC _ _).mono ?_; rintro e w' ⟨rfl,rfl⟩)|(go_at_call 234; refine (Qd _ _).mono ?_; rintro e w' ⟨rfl,rfl⟩));refine (Z1 hcl 4 (s.extract i (i+1)) (by have:=xR s i (i+1); omega) _).mono ?_;rintro e w1 ⟨rfl,hb⟩;obtain⟨c0,c1,f0,f1,hz,hbb⟩:=Xc hb;clear hb;have HBB:=zd hbb;have Q2:=zd (Vl (.int .i64 4) (.string (s.extract i (i+1))) c0 c1);clear hbb
    go_wp2
    obtain⟨q0,q1⟩:=Q2.out;exact bodyPost_ret (v:=.tuple #[.agg #[.int .i64 4,.string (s.extract i (i+1))],.int .i64 ((i:Int)+1)]) (by simp[results,Tryz.results161,go_sem,q0,q1]) rfl
     ⟨by rw[HA.out]; simp,Xd _ _ HBB.out⟩
theorem zdn:YG:=by
 intro s w h;go_enter Tryz.func57,Tryz.ntmps57;go_wp2_with (go_at_call 111; refine (Tryz.stringslite_Clone s _ h).mono ?_; rintro e w' ⟨rfl,hb⟩);go_ret;exact⟨rfl,hb⟩
theorem zhh:(Tryz.prog.info? 179).map (fun i=>(i.zero,i.size,i.bytes))=some (some (.agg #[.int .i64 0,.string ⟨#[]⟩]),2,24):=by kernel_rfl
def yT (l:List (Int×ByteArray)):List Value:=l.flatMap fun t=>[.int .i64 t.1,.string t.2]
theorem zav (l:List (Int×ByteArray)) (t:Int×ByteArray):yT (l++[t])=yT l++[.int .i64 t.1,.string t.2]:=by
 simp[yT]
theorem VA:∀(l:List (Int×ByteArray)) (i:Nat),i<l.length->(yT l)[i * 2]? = some (.int .i64 (l.getD i (0,.empty)).1)/\(yT l)[i * 2+1]? = some (.string (l.getD i (0,.empty)).2)
 |[],i,h=>absurd h (by simp)
 |t::r,0,_=>by simp[yT]
 |t::r,i+1,h=>by
  have ih:=VA r i (by simpa using h);have e:yT (t::r)=.int .i64 t.1::.string t.2::yT r:=by simp[yT]
  rw[e,show (i+1) * 2=i * 2+1+1 by omega,show i * 2+1+1+1=(i * 2+1)+1+1 by omega];simp only[List.getElem?_cons_succ,List.getD_cons_succ];exact ih
theorem Yo {w w':World} {B:Nat} {e:TypeId} {size:Nat} {v:Value} {n:Nat} {xs:List Value} (h:w.ownsRow B e size v n xs) (hb:Below w.heap.size w w'):w'.ownsRow B e size v n xs:=by
 obtain⟨hx,h|⟨g,cap,cur,hv,hg,hh,h1,h2,h3,h4⟩⟩:=h
 ·exact⟨hx,Or.inl h⟩
 ·refine⟨hx,Or.inr ⟨g,cap,cur,hv,hg,?_,h1,h2,h3,h4⟩⟩
  rw[hb.block g ?_]
  ·exact hh
  ·rcases Nat.lt_or_ge g w.heap.size with h|h
   ·exact h
   ·rw[Array.getElem?_eq_none h] at hh
    cases hh
theorem za1 {w:World} {B:Nat} {v:Value} {l:List (Int×ByteArray)} (h:w.ownsRow B 179 2 v l.length (yT l)) (hl:l.length<=maxLen) (hs:∀t∈l,t.2.size<=maxLen):QQ w v l:=by
 obtain⟨hx,⟨hv,hn⟩|⟨g,cap,cur,hv,hg,hh,h1,h2,h3,h4⟩⟩:=h
 ·exact Or.inl ⟨List.length_eq_zero_iff.1 hn,_,_,hv⟩
 ·refine Or.inr ⟨g,0,cap,hv,?_,hl,fun i hi=>?_⟩
  ·rcases Nat.lt_or_ge g w.heap.size with h|h
   ·exact h
   ·rw[Array.getElem?_eq_none h] at hh
    cases hh
  ·have hc:∀j u,(yT l)[j]? = some u->w.cell? ⟨g,j,none⟩=some u:=fun j u hj=>by
    rw[<- h4] at hj;have hj':j<l.length * 2:=by
     rcases Nat.lt_or_ge j (l.length * 2) with h|h
     ·exact h
     ·rw[List.getElem?_eq_none (by rw[List.length_take]; omega)] at hj
      cases hj
    rw[List.getElem?_take_of_lt hj'] at hj;simpa [World.cell?,hh] using hj
   obtain⟨a,b⟩:=VA l i hi;refine⟨by simpa using hc _ _ a,by simpa using hc _ _ b,hs _ ?_⟩;rw[List.getD_eq_getElem?_getD,List.getElem?_eq_getElem hi];exact List.getElem_mem hi
theorem zaw {w:World} {B:Nat} {e:TypeId} {size:Nat} {v:Value} {n:Nat} {xs:List Value} (h:w.ownsRow B e size v n xs):∀k,v.ownBlock=some k->B<=k:=by
 intro k hk;obtain⟨_,⟨hv,_⟩|⟨g,cap,cur,hv,hg,_⟩⟩:=h
 ·rw[hv] at hk
  cases hk
 ·rw[hv] at hk
  have:g=k:=by simpa [Value.ownBlock] using hk
  omega
theorem Jt {s:ByteArray} {k:Nat} (h:xA s k=none):yp (qm s k).1≠0:=by
 simp[qm,h,yp,xm]
theorem zgb {s:ByteArray} {k:Nat} (h:yp (qm s k).1=0):xA s k=some (qm s k):=by
 cases hn:xA s k with
 |none=>exact absurd h (Jt hn)
 |some te=>simp[qm,hn]
theorem zgc {s:ByteArray} {k:Nat} (hk:k<s.size) (hb:zz s k≠32) (h:yp (qm s k).1≠0):qV s k=none:=by
 cases hn:xA s k with
 |none=>exact zdl hk hb hn
 |some te=>
  have e:qm s k=te:=by simp[qm,hn]
  rw[e] at h;exact zew hk hb hn h
theorem zhY {s:ByteArray} {k:Nat} (hk:k<s.size):(qm s k).1.2.size<=s.size/\(qm s k).2<=s.size:=by
 cases hn:xA s k with
 |none=>
  have e:qm s k=((0,⟨#[]⟩),s.size):=by simp[qm,hn]
  rw[e];exact⟨Nat.zero_le _,Nat.le_refl _⟩
 |some te=>
  obtain⟨t,e⟩:=te;have h:=Qz hk hn;have e':qm s k=(t,e):=by simp[qm,hn]
  rw[e'];exact⟨h.2.2,h.2.1⟩
theorem zhZ {s:ByteArray} {k:Nat} (hk:k<s.size) (hb:zz s k≠32) (h:yp (qm s k).1=0):k<(qm s k).2/\qV s k=(qV s (qm s k).2).map ((qm s k).1::·):=by
 have hn:=zgb h;exact⟨(Qz hk hn).1,zdm hk hb hn h⟩
theorem zgd {s:ByteArray} {i k:Nat} {done:List (Int×ByteArray)} {t:Int×ByteArray} (h:qV s 0=(qV s i).map (done++·)) (h':qV s i=(qV s k).map (t::·)):qV s 0=(qV s k).map ((done++[t])++·):=by
 rw[h,h',Option.map_map]
 congr 1
 funext l
 simp
theorem zhi (s:ByteArray) (hs:s.size<=1500) (w:World) :
  Calls Tryz.prog 95 #[.string s] w fun e w'=>∃v,e=.returned (.tuple #[v,.int .i64 (yq s)])/\QQ w' v (xB s)/\Below w.heap.size w w':=by
 have h1500:¬(1500:Int)<(s.size:Int):=by omega
 have HM:Hid (s.size<=maxLen):=by show _<=_; unfold maxLen; omega
 have hc:(w.alloc (.cells #[.string s] 9)).cell? ⟨w.heap.size,0,none⟩=some (.string s):=by
  rw[World.cell?_alloc_at _ _ _ _ rfl]; rfl
 have hr:=QR 160 (enters_of Tryz.func160 (by kernel_rfl) rfl) v6 Kr s HM.out w.heap.size 0 (by omega) (by omega) _ hc;obtain⟨i0,hi,hz0,hz1,hz2⟩:=info_parts zhh;go_enter Tryz.func95,Tryz.ntmps95;go_wp2_with (go_at_call 159; refine (j3 _ _).mono ?_; rintro e w' ⟨rfl,rfl⟩);refine hr.mono ?_;rintro e w' ⟨rfl,rfl⟩;clear hr;have HS:=zd (yA v6 s 0 (by omega));have HR:=zd (@KH s 0 (by omega));rw[show ((0:Int)).toNat=0 from rfl];generalize qH v6 s 0=E at *
 go_wp2
 go_loopw [4,6] (fun v i wr=>∃(done:List (Int×ByteArray)) (k:Nat),k<=s.size/\i=.int .i64 k/\(k<s.size->zz s k≠32)/\wr.ownsRow (w.heap.size+1) 179 2 v done.length (yT done)/\
   wr.cell? ⟨w.heap.size,0,none⟩=some (.string s)/\w.heap.size+1<=wr.heap.size/\Below w.heap.size w wr/\qV s 0=(qV s k).map (done++·)/\done.length<=k/\∀t∈done,t.2.size<=s.size)
  (fun _ i _=>s.size - (intOf i).toNat)
 case atStart=>
  refine⟨[],E,HS.out.2.1,rfl,fun h=>?_,World.ownsRow_nil _ _ _ _,hc,by simp,(Below.refl _ _).alloc (Nat.le_refl _) _,?_,by simp,by simp⟩
  ·have:=HS.out.2.2.2 h
   simpa [v6] using this
  ·rw[HR.out]; simp
 case round=>
  clear hc HS HR;obtain⟨done,k,hk,rfl,hnb,hown,hcs,hsz,hbl,hcut,hdl,hts⟩:=hrel;have HNB:=zd hnb;have HCut:=zd hcut;have HTS:=zd hts;clear hnb hcut hts
  by_cases hlt:k<s.size
  ·have hT:=zb2 zdn s hs k hlt wr
   have hbd:=zhY hlt;have HOn:=zd (@zhZ s k hlt (HNB.out hlt));have HStop:=zd (@zgc s k hlt (HNB.out hlt));clear HNB;generalize qm s k=A at *;obtain⟨⟨kd,tx⟩,E⟩:=A;simp only at hT hbd;obtain⟨htx,hE⟩:=hbd;have hmx:tx.size<=maxLen:=Nat.le_trans htx HM.out
   by_cases hf:xm kd tx=0
   ·have hf':(xm kd tx != 0)=false:=by simp[hf]
    obtain⟨hkE,hcE⟩:=HOn.out hf;have HCE:=zd (zgd HCut.out hcE);clear HOn HStop HCut hcE hf;go_wp2_with fail;refine hT.mono ?_;rintro e w1 ⟨rfl,hb1⟩;clear hT;have hown1:=Yo hown hb1;have hcs1:=(hb1.cell (p:=⟨w.heap.size,0,none⟩) (by simp; omega)).trans hcs;have hbl1:=hbl.trans (hb1.mono hbl.size);have hsz1:w.heap.size+1<=w1.heap.size:=Nat.le_trans hsz hb1.size;clear hown hcs hbl hsz hb1;have HW1:=zd hown1;have HL1:=zd hbl1;clear hown1 hbl1;go_wp2_with fail;refine (YF kd tx hmx _).mono ?_;rintro e w2 ⟨rfl,hb2⟩;have c0:=hb2.cell (p:=⟨w1.heap.size,0,none⟩) (by simp);have c1:=hb2.cell (p:=⟨w1.heap.size,1,none⟩) (by simp);rw[World.cell?_alloc_at _ _ _ _ rfl] at c0 c1;have c0':w2.cell? ⟨w1.heap.size,0,none⟩=some (.int .i64 kd):=c0;have c1':w2.cell? ⟨w1.heap.size,1,none⟩=some (.string tx):=c1;have hba:Below w1.heap.size w1 w2:=((Below.refl _ _).alloc (Nat.le_refl _) _).trans (hb2.mono (by simp));have hcs2:=(hba.cell (p:=⟨w.heap.size,0,none⟩) (by simp; omega)).trans hcs1;have hown2:=Yo HW1.out hba;have HL2:=zd (HL1.out.trans (hba.mono HL1.out.size));have hsz2:w.heap.size+1<=w2.heap.size:=Nat.le_trans hsz1 hba.size;clear c0 c1 hcs1 hb2 hsz1 HW1 HL1 hba;go_wp2_with (at_builtin; refine wpList_append_own _ rfl _ _ 124 rfl (w.heap.size+1) 179 i0 (.agg #[.int .i64 0,.string ⟨#[]⟩]) 2 24 Tryz.underlying124 hi hz0 hz1 hz2 rfl (by decide) _ _ _ rfl (hown2.alloc _) ⟨w2.heap.size,0,none⟩ 1 1 [.int .i64 kd,.string tx] rfl rfl ?c1 ?c2 ?c3 ?c4 ?c5 ?_)
    case c1=>exact cell_two_new _ _ _ _
    case c2=>
     intro u hu;simp at hu
     rcases hu with rfl|rfl <;> rfl
    case c3=>unfold maxLen; omega
    case c4=>omega
    case c5=>simp; omega
    intro v' w3 hown3 hgrow _;have hrow:=zaw hown2;have hcs3:w3.cell? ⟨w.heap.size,0,none⟩=some (.string s):=by
     rw[World.cell?_of_block (hgrow.block w.heap.size (by simp; omega) (fun h=>by have:=hrow _ h.symm; omega)),World.cell?_alloc_past _ _ _ (by omega)];exact hcs2
    have HL3:=zd ((HL2.out.alloc (by omega) (.cells #[.int .i64 kd,.string tx] 179)).grown hgrow (by simp; omega) (fun j hj=>by have:=hrow j hj; omega));have hsz3:w.heap.size+1<=w3.heap.size:=by have:=hgrow.size; simp at this; omega
    have HO3:Hid (w3.ownsRow (w.heap.size+1) 179 2 v' (done++[(kd,tx)]).length (yT (done++[(kd,tx)]))):=by
     show w3.ownsRow _ _ _ _ _ _;rw[zav,List.length_append];exact hown3
    clear hown3 hgrow hrow hown2 HL2 hcs2 hsz2 c0' c1';have hr:=QR 160 (enters_of Tryz.func160 (by kernel_rfl) rfl) v6 Kr s HM.out w.heap.size (E:Int) (by omega) (by omega) _ hcs3;rw[Int.toNat_natCast] at hr;have HS:=zd (yA v6 s E hE);have HR:=zd (@KH s E hE);obtain⟨g1,g2,_,_⟩:=HS.out;generalize qH v6 s E=F at *;go_wp2_with fail;refine hr.mono ?_;rintro e w' ⟨rfl,rfl⟩;clear hr
    go_wp2
    go_roundw
    case rel=>
     refine⟨done++[(kd,tx)],F,g2,rfl,fun h=>?_,HO3.out,hcs3,hsz3,HL3.out,?_,?_,?_⟩
     ·have:=HS.out.2.2.2 h
      simpa [v6] using this
     ·rw[HR.out]; exact HCE.out
     ·simp; omega
     ·intro t ht
      rcases List.mem_append.1 ht with h|h
      ·exact HTS.out t h
      ·simp at h; rw[h]; exact htx
    case measure=>simp[intOf]; omega
   ·have hf':(xm kd tx != 0)=true:=by simp[hf]
    have HE:Hid (yq s=4):=by
     show yq s=4;unfold yq;rw[if_neg (by omega),HCut.out,HStop.out hf]
     rfl
    have HT:Hid (xB s=[]):=by
     show xB s=[];unfold xB;rw[if_neg (by omega),HCut.out,HStop.out hf]
     rfl
    clear HOn HStop HCut hf;go_wp2_with fail;refine hT.mono ?_;rintro e w1 ⟨rfl,hb1⟩;clear hT;have HL1:=zd (hbl.trans (hb1.mono hbl.size));have hsz1:w.heap.size+1<=w1.heap.size:=Nat.le_trans hsz hb1.size;clear hown hcs hbl hsz hb1;go_wp2_with fail;refine (YF kd tx hmx _).mono ?_;rintro e w2 ⟨rfl,hb2⟩;have HL2:=zd ((HL1.out.alloc (by omega) _).trans (hb2.mono (by simp; omega)));clear hb2
    go_wp2
    go_ret2;exact⟨_,by rw[HE.out]; rfl,by rw[HT.out]; exact Or.inl ⟨rfl,_,_,rfl⟩,HL2.out⟩
  ·have hp:=zdk hlt
   have hcut':qV s 0=some done:=by rw[HCut.out,hp]; simp
   have hmd:done.length<=maxLen:=by unfold maxLen; omega
   have HTR:=zd (za1 hown hmd (fun t ht=>Nat.le_trans (HTS.out t ht) HM.out));have HL:=zd hbl;obtain⟨av,cp,hav⟩:∃av cp,u4=.slice av done.length cp:=by
    obtain⟨_,⟨hv,hn⟩|⟨g,cap,cur,hv,_⟩⟩:=hown
    ·exact⟨none,0,by rw[hv,hn]⟩
    ·exact⟨_,_,hv⟩
   clear HNB HCut hp hown hbl
   by_cases h200:200<done.length
   ·have h2:(200:Int)<(done.length:Int):=by omega
    have HE:Hid (yq s=1):=by
     show yq s=1;unfold yq;rw[if_neg (by omega),hcut'];exact if_pos h200
    have HT:Hid (xB s=[]):=by
     show xB s=[];unfold xB;rw[if_neg (by omega),hcut'];exact if_pos h200
    clear hcut' h200;rw[hav];clear hav HTR
    go_wp2
    go_ret2;exact⟨_,by rw[HE.out]; rfl,by rw[HT.out]; exact Or.inl ⟨rfl,_,_,rfl⟩,HL.out⟩
   ·have h2:¬(200:Int)<(done.length:Int):=by omega
    have HE:Hid (yq s=0):=by
     show yq s=0;unfold yq;rw[if_neg (by omega),hcut'];exact if_neg h200
    have HT:Hid (xB s=done):=by
     show xB s=done;unfold xB;rw[if_neg (by omega),hcut'];exact if_neg h200
    clear hcut' h200;rw[hav] at HTR;rw[hav];clear hav
    go_wp2
    go_ret2;exact⟨_,by rw[HE.out]; rfl,by rw[HT.out]; exact HTR.out,HL.out⟩
theorem zhj (s:ByteArray) (w:World) :
  Calls Tryz.prog 95 #[.string s] w fun e w'=>∃v,e=.returned (.tuple #[v,.int .i64 (yq s)])/\QQ w' v (xB s)/\Below w.heap.size w w':=by
 by_cases h:1500<s.size
 ·have h':(1500:Int)<(s.size:Int):=by omega
  have HE:Hid (yq s=1):=if_pos h;have HT:Hid (xB s=[]):=if_pos h;clear h;go_enter Tryz.func95,Tryz.ntmps95
  go_wp2
  go_ret2;exact⟨_,by rw[HE.out]; rfl,by rw[HT.out]; exact Or.inl ⟨rfl,_,_,rfl⟩,Below.refl _ _⟩
 ·exact zhi s (by omega) w
theorem XT (s:ByteArray):∀(f i:Nat) (l:List (Int×ByteArray)),kI s f i=some l->∀t∈l,yp t=0
 |0,_,l,h,t,ht=>by
  simp only[kI,Option.some.injEq] at h;rw[<- h] at ht
  cases ht
 |f+1,i,l,h,t,ht=>by
  unfold kI at h
  split at h
  ·split at h
   ·exact XT s f _ l h t ht
   ·split at h
    ·cases h
    ·rename_i u e _
     split at h
     ·rename_i hu
      obtain⟨r,hr,rfl⟩:=Option.map_eq_some_iff.1 h
      rcases List.mem_cons.1 ht with rfl|ht
      ·exact hu
      ·exact XT s f e r hr t ht
     ·cases h
  ·simp only[Option.some.injEq] at h
   rw[<- h] at ht
   cases ht
theorem zb3 {k:Int} {t:ByteArray} (h:xm k t=0):(k=1/\vG t=true)\/(k=2/\jr t=true)\/(k=3/\yk t=true)\/(k=4/\XD t=true):=by
 unfold xm at h
 split at h
 ·rename_i hk
  split at h
  ·rename_i ho
   unfold Vj at ho
   split at ho
   ·exact Or.inl ⟨‹_›,ho⟩
   ·split at ho
    ·exact Or.inr (Or.inl ⟨‹_›,ho⟩)
    ·split at ho
     ·exact Or.inr (Or.inr (Or.inl ⟨‹_›,ho⟩))
     ·exact Or.inr (Or.inr (Or.inr ⟨by omega,ho⟩))
  ·omega
 ·omega
theorem zey {s:ByteArray} (h:yq s=0):s.size<=1500/\qV s 0=some (xB s)/\(xB s).length<=200/\(∀t∈xB s,yp t=0):=by
 unfold yq at h
 split at h
 ·omega
 ·rename_i hs
  cases hc:qV s 0 with
  |none=>rw[hc] at h; simp at h
  |some l=>
   rw[hc] at h;simp only at h
   split at h
   ·omega
   ·rename_i hl
    have e:xB s=l:=by unfold xB; rw[if_neg hs,hc]; exact if_neg hl
    rw[e];exact⟨by omega,rfl,by omega,XT s _ _ l hc⟩
def xK (s:ByteArray):Except Int Line:=if yq s=0 then Zo (xB s) else .error (yq s)
structure BelowM (base M:Nat) (W W':World):Prop where
 os:W'.os=W.os
 tape:W'.tape=W.tape
 output:W'.output=W.output
 size:W.heap.size<=W'.heap.size
 block:∀k,k<base->k≠M->W'.heap[k]? = W.heap[k]?
theorem BelowM.of_below {base M n:Nat} {W W':World} (h:Below n W W') (hn:base<=n):BelowM base M W W':=⟨h.os,h.tape,h.output,h.size,fun k hk _=>h.block k (by omega)⟩
theorem BelowM.trans {base M:Nat} {W W' W'':World} (h:BelowM base M W W') (h':BelowM base M W' W''):BelowM base M W W'':=
 ⟨h'.os.trans h.os,h'.tape.trans h.tape,h'.output.trans h.output,Nat.le_trans h.size h'.size,fun k hk hne=>(h'.block k hk hne).trans (h.block k hk hne)⟩
theorem GrewM.belowM {base M o c:Nat} {cells:Array Value} {T:TypeId} {v v':Value} {n n':Nat} {ys ys':List Value} {W W':World} (h:GrewM base M o cells T c v v' n' ys' W W') (hown:W.ownsRow base T c v n ys) (hW:base<=W.heap.size):BelowM base M W W':=
 ⟨h.os,h.tape,h.output,h.size,fun k hk hne=>h.rest k (by omega) hne (fun e=>by have:=zk hown _ e.symm; omega)⟩
def Z2 (base M:Nat) (mo:Mo) (W:World) (r:Except Int Line) (x:Int) (w':World):Prop:=BelowM base M W w'/\((∃e,r=.error e/\x=e)\/∃d,r=.ok d/\x=0/\∃n1 vu vt vf,ModAt base M n1 (kl mo d) vu vt vf w')
theorem j6 {W:World} {base c n:Nat} {T:TypeId} {v:Value} {ys:List Value} (h:W.ownsRow base T c v n ys):∃la cap,v=.slice la n cap:=by
 rcases h.2 with ⟨h1,h2⟩|⟨g,cap,_,h1,_⟩
 ·exact⟨none,0,by rw[h1,h2]⟩
 ·exact⟨_,cap,h1⟩
theorem zhk {w w':World} {v:Value} {l:zB} {B:Nat} (h:QQ w v l) (hB:w.heap.size=B) (hb:Below w.heap.size w w') (h2:l.length<=200) (h3:∀t∈l,yp t=0):Qe B w' v l:=by
 refine⟨⟨h2,fun t ht h1=>?_⟩,?_⟩
 ·have:=h3 t ht
  unfold yp at this
  rcases zb3 this with ⟨h,_⟩|⟨_,h⟩|⟨h,_⟩|⟨h,_⟩
  ·omega
  ·exact h
  ·omega
  ·omega
 ·rcases h with h|⟨b,off,cap,rfl,hlt,_,hc⟩
  ·exact Or.inl h
  ·refine Or.inr ⟨b,off,cap,rfl,by omega,fun i hi=>?_⟩
   have h:=hc i hi;rw[List.getD_eq_getElem?_getD,List.getElem?_eq_getElem hi] at h;exact⟨(hb.cell (p:=⟨b,off+i * 2,none⟩) hlt).trans h.1,(hb.cell (p:=⟨b,off+i * 2+1,none⟩) hlt).trans h.2.1,h.2.2⟩
theorem YH {base M:Nat} {mo:Mo} {W w':World} {l:zB} {j:Nat} {d:Line} {r:Except Int Line} (hb:BelowM base M W w') (hr:r=if l.length<=j then .ok d else .error 4) (hm:∃n1 vu vt vf,ModAt base M n1 (kl mo d) vu vt vf w') :
  Z2 base M mo W r (if l.length<=j then 0 else 4) w':=by
 refine⟨hb,?_⟩
 by_cases h:l.length<=j
 ·rw[if_pos h] at hr ⊢
  exact Or.inr ⟨d,hr,rfl,hm⟩
 ·rw[if_neg h] at hr ⊢
  exact Or.inl ⟨4,hr,rfl⟩
theorem zez (s:ByteArray) (base M n1:Nat) (mo:Mo) (vu vt vf:Value) (W:World) (h:ModAt base M n1 mo vu vt vf W) (hu:mo.uses.length<=2000) (ht:mo.types.length<=2000) (hf:mo.funcs.length<=2000) :
  Calls Tryz.prog 54 #[.string s,.pointer (some ⟨M,0,none⟩)] W (zQ (Z2 base M mo W (xK s))):=by
 have hM:=h.hM;have hb:=h.hb;have hn:=h.hn;have HMod:=zd h;have hal0:Below W.heap.size W (W.alloc (.cells #[.pointer (some ⟨M,0,none⟩)] 115)):=(Below.refl _ _).alloc (Nat.le_refl _) _;have HB0:=zd hal0;have hef:=z8;clear h hal0;go_enter Tryz.func54,Tryz.ntmps54;go_wp2_with fail;refine (zhj s _).mono ?_;rintro e w1 ⟨v,rfl,hv,hb1⟩;have hsz1:W.heap.size+1<=w1.heap.size:=by have:=hb1.size; simpa using this
 have hbel1:Below W.heap.size W w1:=HB0.out.trans (hb1.mono (by simp));have HB1:=zd hbel1;have cm1:w1.cell? ⟨W.heap.size,0,none⟩=some (.pointer (some ⟨M,0,none⟩)):=(hb1.cell (p:=⟨W.heap.size,0,none⟩) (by simp)).trans (World.cell?_alloc_at _ _ _ _ rfl)
 by_cases hce:yq s=0
 ·have hLR:xK s=Zo (xB s):=if_pos hce
  have HLR:=zd hLR;obtain⟨_,_,h200,hval⟩:=zey hce;rw[hce];generalize xB s=l at *
  by_cases hl0:l.length=0
  ·have hR:Z2 base M mo W (xK s) 0 w1:=⟨BelowM.of_below hbel1 (by omega),Or.inr ⟨.none,by rw[hLR]; unfold Zo; simp only[hl0,if_true],rfl,n1,vu,vt,vf,HMod.out.keep (hbel1.mono hn)⟩⟩
   have HR:=zd hR;obtain⟨a,cap,rfl⟩:∃a cap,v=.slice a 0 cap:=by
    rcases hv with ⟨_,h⟩|⟨b,off,cap,h,_⟩
    ·exact h
    ·exact⟨_,cap,by rw[h,hl0]⟩
   clear hR hv hb1 hbel1 hval hLR cm1 hce;go_wp2_with fail;go_ret;exact⟨_,rfl,HR.out⟩
  ·obtain⟨a,cap,rfl⟩:∃a cap,v=.slice a l.length cap:=by
    rcases hv with ⟨h,_⟩|⟨b,off,cap,h,_⟩
    ·rw[h] at hl0; exact absurd rfl hl0
    ·exact⟨_,cap,h⟩
   have hl0':(((l.length:Nat):Int)==0)=false:=by simpa using hl0
   have hal2:Below w1.heap.size w1 ((w1.alloc (.cells #[.slice a l.length cap,.int .i64 0] 162)).alloc (.cells #[.pointer (some ⟨w1.heap.size,0,none⟩)] 160)):=((Below.refl _ _).alloc (Nat.le_refl _) _).alloc (by simp) _;have hrd:zv w1.heap.size l 0 ((w1.alloc (.cells #[.slice a l.length cap,.int .i64 0] 162)).alloc (.cells #[.pointer (some ⟨w1.heap.size,0,none⟩)] 160)):=by
    refine⟨.slice a l.length cap,?_,zhk hv rfl hal2 h200 hval,Nat.zero_le _⟩;rw[heap_alloc_old _ _ (by simp)];exact heap_alloc_new w1 _
   have hw2:∃w2,((w1.alloc (.cells #[.slice a l.length cap,.int .i64 0] 162)).alloc (.cells #[.pointer (some ⟨w1.heap.size,0,none⟩)] 160))=w2/\w2.cell? ⟨W.heap.size,0,none⟩=some (.pointer (some ⟨M,0,none⟩))/\w2.cell? ⟨w1.heap.size+1,0,none⟩=some (.pointer (some ⟨w1.heap.size,0,none⟩))/\w2.heap.size=w1.heap.size+2:=
    ⟨_,rfl,(World.cell?_alloc_old _ _ _ (by show W.heap.size≠_; simp; omega)).trans ((World.cell?_alloc_old _ _ _ (by show W.heap.size≠_; omega)).trans cm1),World.cell?_alloc_at _ _ _ _ (by simp),by simp⟩
   obtain⟨w2,hwe,y0,y1,hs2⟩:=hw2;rw[hwe] at hal2 hrd;have HX:=zd (show ∀W',Moved w1.heap.size w2 W'->Below W.heap.size W W'/\W'.cell? ⟨W.heap.size,0,none⟩=some (.pointer (some ⟨M,0,none⟩))/\W'.cell? ⟨w1.heap.size+1,0,none⟩=some (.pointer (some ⟨w1.heap.size,0,none⟩)) from fun W' hm=>
    ⟨(hbel1.trans (hal2.mono (by omega))).trans (hm.below.mono (by omega)),(hm.below.cell (p:=⟨W.heap.size,0,none⟩) (by show W.heap.size<_; omega)).trans y0,(hm.cell (by omega) (by omega) 0).trans y1⟩)
   have HR2:=zd hrd;have HL0:=zd hl0;clear hal2 hrd hv hb1 hbel1 hval h200 cm1 hLR hce hl0;go_wp2_with fail
   try rw[hwe]
   refine (Qf w1.heap.size l 0 ⟨#[117,115,101]⟩ _ HR2.out).mono ?_;rintro e w3 ⟨rfl,q1,q2⟩;have HN3:=zd q2;have hsz3:=q2.below.size;obtain⟨hbx3,k0,k1⟩:=HX.out w3 q2;have HBel3:=zd hbx3
   cases hu1:wrd l 0 [117,115,101]
   case true=>
    have hu1':wrd l 0 (ByteArray.mk #[117,115,101]).data.toList=true:=hu1;rw[hu1'] at q1;have q1':zv w1.heap.size l 1 w3:=q1;have hmod3:=HMod.out.keep (hbx3.mono hn);obtain⟨yu,hyu⟩:=hmod3.us;obtain⟨la,lcap,hvu⟩:=j6 hyu.own;subst hvu;have hP:xK s=match yM l 1 with
     |.none=>.error 4
     |.some t=>if l.length<=2 then .ok (.use t) else .error 4:=by
     rw[HLR.out]; unfold Zo; simp only[HL0.out,if_false,hu1,if_true]; rfl
    have cU:=zfY (Z2 base M mo W (xK s)) base M n1 w1.heap.size #[.slice la mo.uses.length lcap,vt,vf] la lcap mo.uses.length yu l 1 w3 q1' hmod3.mod rfl hyu.own hyu.old hM hb (by omega) (by unfold maxLen; omega) (by omega)
     (fun hi w' hm'=>⟨BelowM.of_below (HX.out w' (HN3.out.trans hm')).1 (by omega),Or.inl ⟨4,by rw[hP,hi],rfl⟩⟩)
     (fun t hi hts g cap' wa wb w' hm' hG hb'=>by
      have hbx:=(HX.out wa (HN3.out.trans hm')).1;have hsza:=hm'.below.size;have hma:=HMod.out.keep (hbx.mono hn);have hya:RowIs StC 9 1 base n1 (yQ base n1 (.slice la mo.uses.length lcap) vt vf) mo.uses (.slice la mo.uses.length lcap) yu wa:=RowIs.keep (C:=StC) (fun hk h=>QO hk h) hyu ⟨fun b hb'=>(hm'.below.block b (by have:=hb'.2.1; omega)),fun _ h=>h⟩ (fun g' hg'=>hm'.below.block g' (by have:=hyu.old g' hg'; omega)) (Nat.le_refl _);have hmb:=ModAt.pushU hma hya hG hts;refine YH (d:=.use t) ?_ (by rw[hP,hi]) ⟨_,_,_,_,hmb.keep hb'⟩;exact ((BelowM.of_below hbx (by omega)).trans (hG.belowM hya.own (by omega))).trans (BelowM.of_below hb' (by have:=hG.size; omega)))
    have HCU:=zd cU
    try rw[hu1']
    clear q1 q1' q2 hu1 hu1' hmod3 cU hP hbx3 hwe y0 y1 hyu;go_wp2_with fail;refine HCU.out.mono ?_;rintro e w' ⟨y,rfl,hy⟩;have HY:=zd hy;clear hy;go_wp2_with fail;go_ret;exact⟨_,rfl,HY.out⟩
   have hu1':wrd l 0 (ByteArray.mk #[117,115,101]).data.toList=false:=hu1;rw[hu1'] at q1;have HR3:Hid (zv w1.heap.size l 0 w3):=q1;have HU1:=zd hu1
   try rw[hu1']
   clear q1 q2 hu1 hu1' hbx3 hwe y0 y1;go_wp2_with fail;refine (Qf w1.heap.size l 0 ⟨#[116,121,112,101]⟩ _ HR3.out).mono ?_;rintro e w4 ⟨rfl,q1,q2⟩;have HN4:=zd (HN3.out.trans q2);have hsz4:=q2.below.size;obtain⟨hbx4,j0,j1⟩:=HX.out w4 HN4.out;clear k0 k1
   cases hu2:wrd l 0 [116,121,112,101]
   case true=>
    have hu2':wrd l 0 (ByteArray.mk #[116,121,112,101]).data.toList=true:=hu2;rw[hu2'] at q1;have q1':zv w1.heap.size l 1 w4:=q1;have hPb:∀e,qX l [61] 1=.bad e->xK s=.error e:=fun e he=>by
     rw[HLR.out]; unfold Zo; simp only[HL0.out,if_false,HU1.out,hu2,if_true,he]; rfl
    have hPo:∀x j,qX l [61] 1=.ok x j->xK s=if l.length<=j then .ok (.typ x) else .error 4:=fun x j he=>by
     rw[HLR.out]; unfold Zo; simp only[HL0.out,if_false,HU1.out,hu2,if_true,he]; rfl
    have cN:=Jo w1.heap.size l 1 ⟨#[61]⟩ w4 99 #[.pointer (some ⟨W.heap.size,0,none⟩),.pointer (some ⟨w1.heap.size+1,0,none⟩)] (enters_of Tryz.func99 (by kernel_rfl) rfl) (Z2 base M mo W (xK s)) q1'
     (fun e he w' hm'=>⟨BelowM.of_below (HX.out w' (HN4.out.trans hm')).1 (by omega),Or.inl ⟨e,hPb e he,rfl⟩⟩)
     (fun x j hx w' v hm' hr' hv=>by
      obtain⟨hbx,g0,g1⟩:=HX.out w' (HN4.out.trans hm');have hma:=HMod.out.keep (hbx.mono hn);obtain⟨yt,hyt⟩:=hma.ts;obtain⟨la,lcap,hvt⟩:=j6 hyt.own;subst hvt;obtain⟨k,f,n,va,rfl,hnm,hcs⟩:=hv;obtain⟨va1,va2,va3,rfl⟩:=hcs.slice;obtain⟨ta,tcap,hrd⟩:=J3 hr';have hsz':=hm'.below.size;refine zdf (Z2 base M mo W (xK s)) base M n1 W.heap.size (w1.heap.size+1) w1.heap.size #[vu,.slice la mo.types.length lcap,vf] la lcap mo.types.length yt x.name k f n va1 va2 va3 ta l.length tcap j w' hma.mod rfl hyt.own hyt.old hM hb (by omega) (by unfold maxLen; omega) (by omega) g0 g1 hn (by omega) (by omega) hrd ?_;intro g cap' wb w'' hG hb';have hmb:=ModAt.pushT (x:=x) hma hyt hG rfl ⟨k,f,n,va1,va2,va3,rfl,hnm,hcs.keep ⟨fun _ _=>rfl,fun b hb2=>⟨by have:=hb2.1; omega,hb2.2⟩⟩⟩;refine YH (d:=.typ x) ?_ (hPo x j hx) ⟨_,_,_,_,hmb.keep hb'⟩;exact ((BelowM.of_below hbx (by omega)).trans (hG.belowM hyt.own (by omega))).trans (BelowM.of_below hb' (by have:=hG.size; omega)))
    have HCN:=zd cN
    try rw[hu2']
    clear q1 q1' q2 hu2 hu2' cN hPb hPo hbx4;go_wp2_with fail;refine HCN.out.mono ?_;rintro e w' ⟨y,rfl,hy⟩;have HY:=zd hy;clear hy;go_wp2_with fail;go_ret;exact⟨_,rfl,HY.out⟩
   have hu2':wrd l 0 (ByteArray.mk #[116,121,112,101]).data.toList=false:=hu2;rw[hu2'] at q1;have HR4:Hid (zv w1.heap.size l 0 w4):=q1;have HU2:=zd hu2
   try rw[hu2']
   clear q1 q2 hu2 hu2' hbx4;go_wp2_with fail;refine (Qf w1.heap.size l 0 ⟨#[102,117,110,99]⟩ _ HR4.out).mono ?_;rintro e w5 ⟨rfl,q1,q2⟩;have HN5:=zd (HN4.out.trans q2);have hsz5:=q2.below.size;obtain⟨hbx5,i0,i1⟩:=HX.out w5 HN5.out;clear j0 j1
   cases hu3:wrd l 0 [102,117,110,99]
   case true=>
    have hu3':wrd l 0 (ByteArray.mk #[102,117,110,99]).data.toList=true:=hu3;rw[hu3'] at q1;have q1':zv w1.heap.size l 1 w5:=q1;have hPb:∀e,kH l 1=.bad e->xK s=.error e:=fun e he=>by
     rw[HLR.out]; unfold Zo; simp only[HL0.out,if_false,HU1.out,HU2.out,hu3,if_true,he]; rfl
    have hPo:∀x j,kH l 1=.ok x j->xK s=if l.length<=j then .ok (.fn x) else .error 4:=fun x j he=>by
     rw[HLR.out]; unfold Zo; simp only[HL0.out,if_false,HU1.out,HU2.out,hu3,if_true,he]; rfl
    have cN:=zf3 w1.heap.size l 1 w5 102 #[.pointer (some ⟨W.heap.size,0,none⟩),.pointer (some ⟨w1.heap.size+1,0,none⟩)] (enters_of Tryz.func102 (by kernel_rfl) rfl) (Z2 base M mo W (xK s)) q1'
     (fun e he w' hm'=>⟨BelowM.of_below (HX.out w' (HN5.out.trans hm')).1 (by omega),Or.inl ⟨e,hPb e he,rfl⟩⟩)
     (fun x j hx w' v hm' hr' hv=>by
      obtain⟨hbx,g0,g1⟩:=HX.out w' (HN5.out.trans hm');have hma:=HMod.out.keep (hbx.mono hn);obtain⟨yf,hyf⟩:=hma.fs;obtain⟨la,lcap,hvf⟩:=j6 hyf.own;subst hvf;obtain⟨vp,k,f,n,va,k',n',f',s',va',rfl,hnm,hvr,hps,hcs,hce⟩:=hv;obtain⟨vp1,vp2,vp3,rfl⟩:=hps.slice;obtain⟨va1,va2,va3,rfl⟩:=hcs.slice;obtain⟨ve1,ve2,ve3,rfl⟩:=hce.slice;obtain⟨ta,tcap,hrd⟩:=J3 hr';have hsz':=hm'.below.size;refine zdg (Z2 base M mo W (xK s)) base M n1 W.heap.size (w1.heap.size+1) w1.heap.size #[vu,vt,.slice la mo.funcs.length lcap] la lcap mo.funcs.length yf x.name x.var vp1 vp2 vp3 k f n va1 va2 va3 k' n' f' s' ve1 ve2 ve3 ta l.length tcap j w' hma.mod rfl hyf.own hyf.old hM hb (by omega) (by unfold maxLen; omega) (by omega) g0 g1 hn (by omega) (by omega) hrd ?_;intro g cap' wb w'' hG hb';have hk2:Keeps (zm w5.heap.size w') (zm n1 w') w' w':=⟨fun _ _=>rfl,fun b hb2=>⟨by have:=hb2.1; omega,hb2.2⟩⟩
      have hmb:=ModAt.pushF (x:=x) hma hyf hG rfl ⟨vp1,vp2,vp3,k,f,n,va1,va2,va3,k',n',f',s',ve1,ve2,ve3,rfl,hnm,hvr,zP hk2 hps,hcs.keep hk2,hce.keep hk2⟩;refine YH (d:=.fn x) ?_ (hPo x j hx) ⟨_,_,_,_,hmb.keep hb'⟩;exact ((BelowM.of_below hbx (by omega)).trans (hG.belowM hyf.own (by omega))).trans (BelowM.of_below hb' (by have:=hG.size; omega)))
    have HCN:=zd cN
    try rw[hu3']
    clear q1 q1' q2 hu3 hu3' cN hPb hPo hbx5;go_wp2_with fail;refine HCN.out.mono ?_;rintro e w' ⟨y,rfl,hy⟩;have HY:=zd hy;clear hy;go_wp2_with fail;go_ret;exact⟨_,rfl,HY.out⟩
   have hu3':wrd l 0 (ByteArray.mk #[102,117,110,99]).data.toList=false:=hu3;have HRes:Hid (Z2 base M mo W (xK s) 4 w5):=⟨BelowM.of_below hbx5 (by omega),Or.inl ⟨4,by rw[HLR.out]; unfold Zo; simp only[HL0.out,if_false,HU1.out,HU2.out,hu3]; rfl,rfl⟩⟩
   try rw[hu3']
   clear q1 q2 hu3 hu3' hbx5 i0 i1;go_wp2_with fail;go_ret;exact⟨_,rfl,HRes.out⟩
 ·have hR:Z2 base M mo W (xK s) (yq s) w1:=⟨BelowM.of_below hbel1 (by omega),Or.inl ⟨_,if_neg hce,rfl⟩⟩
  have HR:=zd hR;have hce':(yq s != 0)=true:=by simpa using hce
  clear hR hv hb1 hbel1 cm1 hce;generalize yq s=y at *;go_wp2_with fail;go_ret;exact⟨_,rfl,HR.out⟩
theorem KI {l:zB} {i:Nat} {e:Int} (h:ym l i=.bad e):e≠0:=by
 unfold ym at h
 split at h
 ·injection h with h; omega
 ·split at h
  ·split at h
   ·injection h with h; omega
   ·cases h
  ·cases h
theorem za2 {l:zB}:∀(f i:Nat) (e:Int),pTy l f i=.bad e->e≠0
 |0,_,_,h=>by rw[pTy] at h; injection h with h; omega
 |f+1,i,e,h=>by
  rw[pTy] at h
  split at h
  ·cases h
  ·split at h
   ·cases h
   ·split at h
    ·split at h
     ·rename_i hk
      injection h with h
      subst h;exact za2 f _ _ hk
     ·split at h
      ·cases h
      ·injection h with h; omega
    ·split at h
     ·rename_i hk
      injection h with h
      subst h;exact KI hk
     ·cases h
theorem XU {α:Type} {sub:Nat->Res α} {l:zB} {fin:List UInt8} (hs:∀i e,sub i=.bad e->e≠0):∀(n:Nat) (acc:List α) (i:Nat) (e:Int),qZ sub l fin n acc i=.bad e->e≠0
 |0,_,_,_,h=>by rw[qZ] at h; injection h with h; omega
 |n+1,acc,i,e,h=>by
  rw[qZ] at h
  split at h
  ·rename_i hk
   injection h with h
   subst h;exact hs _ _ hk
  ·split at h
   ·exact XU hs n _ _ _ h
   ·split at h
    ·cases h
    ·injection h with h; omega
theorem zge {sub:Nat->Res Ex} {l:zB} (hs:∀i e,sub i=.bad e->e≠0) {i:Nat} {e:Int} (h:ZZ sub l i=.bad e):e≠0:=by
 unfold ZZ at h
 split at h
 ·rename_i hk
  injection h with h
  subst h;exact KI hk
 ·split at h
  ·split at h
   ·cases h
   ·split at h
    ·rename_i hl
     injection h with h
     subst h;exact XU hs _ _ _ _ hl
    ·cases h
  ·split at h
   ·cases h
   ·injection h with h; omega
theorem zgf {sub:Nat->Res Ex} {l:zB} (hs:∀i e,sub i=.bad e->e≠0) {i:Nat} {e:Int} (h:Qy sub l i=.bad e):e≠0:=by
 unfold Qy at h
 split at h
 ·split at h
  ·rename_i hk
   injection h with h
   subst h;exact hs _ _ hk
  ·split at h
   ·cases h
   ·injection h with h; omega
 ·split at h
  ·split at h
   ·rename_i hl
    injection h with h
    subst h;exact XU hs _ _ _ _ hl
   ·cases h
  ·split at h
   ·cases h
   ·split at h
    ·cases h
    ·exact zge hs h
theorem Ju {sub:Nat->Res Ex} {l:zB} (hs:∀i e,sub i=.bad e->e≠0):∀(n:Nat) (x:Ex) (i:Nat) (e:Int),vP sub l n x i=.bad e->e≠0
 |0,_,_,_,h=>by rw[vP] at h; injection h with h; omega
 |n+1,x,i,e,h=>by
  rw[vP] at h
  split at h
  ·split at h
   ·rename_i hk
    injection h with h
    subst h;exact hs _ _ hk
   ·split at h
    ·exact Ju hs n _ _ _ h
    ·injection h with h; omega
  ·cases h
theorem za3 {sub:Nat->Res Ex} {l:zB} (hs:∀i e,sub i=.bad e->e≠0) {i:Nat} {e:Int} (h:kR sub l i=.bad e):e≠0:=by
 unfold kR at h
 split at h
 ·rename_i hk
  injection h with h
  subst h;exact zgf hs hk
 ·exact Ju hs _ _ _ _ h
theorem za4 {sub:Nat->Res Ex} {l:zB} (hs:∀i e,sub i=.bad e->e≠0):∀(n:Nat) (x:Ex) (i:Nat) (e:Int),kj sub l n x i=.bad e->e≠0
 |0,_,_,_,h=>by rw[kj] at h; injection h with h; omega
 |n+1,x,i,e,h=>by
  rw[kj] at h
  split at h
  ·split at h
   ·rename_i hk
    injection h with h
    subst h;exact za3 hs hk
   ·exact za4 hs n _ _ _ h
  ·cases h
theorem za5 {l:zB}:∀(f i:Nat) (e:Int),pEx l f i=.bad e->e≠0
 |0,_,_,h=>by rw[pEx] at h; injection h with h; omega
 |f+1,i,e,h=>by
  rw[pEx] at h
  split at h
  ·rename_i hk
   injection h with h
   subst h;exact za3 (fun i e=>za5 f i e) hk
  ·exact za4 (fun i e=>za5 f i e) _ _ _ _ h
theorem KJ {l:zB} {s:List UInt8} {i:Nat} {e:Int} (h:qX l s i=.bad e):e≠0:=by
 unfold qX at h
 split at h
 ·injection h with h; omega
 ·split at h
  ·split at h
   ·rename_i hk
    injection h with h
    subst h;exact za2 _ _ _ hk
   ·cases h
  ·injection h with h; omega
theorem zhl {l:zB} {i:Nat} {e:Int} (h:ZK l i=.bad e):e≠0:=by
 unfold ZK at h
 split at h
 ·split at h
  ·injection h with h; omega
  ·split at h
   ·cases h
   ·injection h with h; omega
 ·cases h
theorem zdo {l:zB} {i:Nat} {e:Int} (h:Ze l i=.bad e):e≠0:=by
 unfold Ze at h
 split at h
 ·cases h
 ·exact XU (fun i e h=>KJ h) _ _ _ _ h
theorem zhm {l:zB} {i:Nat} {e:Int} (h:kH l i=.bad e):e≠0:=by
 unfold kH at h
 split at h
 ·injection h with h; omega
 ·split at h
  ·rename_i hk
   injection h with h
   subst h;exact zhl hk
  ·split at h
   ·split at h
    ·rename_i hk
     injection h with h
     subst h;exact zdo hk
    ·split at h
     ·split at h
      ·rename_i hk
       injection h with h
       subst h;exact za2 _ _ _ hk
      ·split at h
       ·split at h
        ·rename_i hk
         injection h with h
         subst h;exact za5 _ _ _ hk
        ·cases h
       ·injection h with h; omega
     ·injection h with h; omega
   ·injection h with h; omega
theorem zgg {l:zB} {e:Int} (h:Zo l=.error e):e≠0:=by
 unfold Zo at h;simp only at h
 split at h
 ·cases h
 ·split at h
  ·split at h
   ·injection h with h; omega
   ·split at h
    ·cases h
    ·injection h with h; omega
  ·split at h
   ·split at h
    ·rename_i hk
     injection h with h
     subst h;exact KJ hk
    ·split at h
     ·cases h
     ·injection h with h; omega
   ·split at h
    ·split at h
     ·rename_i hk
      injection h with h
      subst h;exact zhm hk
     ·split at h
      ·cases h
      ·injection h with h; omega
    ·injection h with h; omega
theorem zdp {s:ByteArray} {e:Int} (h:xK s=.error e):e≠0:=by
 unfold xK at h
 split at h
 ·exact zgg h
 ·rename_i hc
  injection h with h
  subst h;exact hc
def yU (s:ByteArray):List ByteArray:=Lib.splitB ⟨#[10]⟩ 0 (Lib.countB s ⟨#[10]⟩) s
theorem zdq (x:ByteArray) (w:World):Calls Tryz.prog 158 #[.string x,.string ⟨#[10]⟩] w fun e w'=>e=.returned (.int .i64 (Lib.indexB x ⟨#[10]⟩))/\w'=w:=by
 go_enter Tryz.func158,Tryz.ntmps158;go_wp2_with fail;refine (Any.stringslite_Index_one (P:=Tryz.prog) (ρ:=Tryz.lays146_ren) { Tryz.lays146 with } x 10 w).mono ?_;rintro e w' ⟨rfl,rfl⟩
 go_wp2
 go_ret;exact⟨by rw[show Lib.indexB x ⟨#[10]⟩=Lib.indexByte x.data.toList 10 from Lib.index_one _ _]; rfl,rfl⟩
theorem zb4 (s:ByteArray) (hs:s.size<4294967281) (w:World) :
  Calls Tryz.prog 53 #[.string s,.string ⟨#[10]⟩] w fun e w'=>e=.returned (.slice (some ⟨w.heap.size,0,none⟩) (yU s).length (yU s).length)/\w'=w.alloc (.cells ((yU s).map Value.string).toArray 9):=by
 have h1:1<=(⟨#[10]⟩:ByteArray).size:=Nat.le_refl _;have hle:=Lib.countB_le ⟨#[10]⟩ h1 s.size s (Nat.le_refl _);have hlen:=Lib.splitB_all ⟨#[10]⟩ h1 0 _ s rfl;have hC:Calls Tryz.prog 157 #[.string s,.string ⟨#[10]⟩] w fun e w'=>e=.returned (.int .i64 (Lib.countB s ⟨#[10]⟩))/\w'=w:=by
  refine (Any.strings_Count_one (P:=Tryz.prog) (ρ:=Tryz.lays146_ren) { Tryz.lays146 with } s 10 w).mono fun e w' ⟨he,hw⟩=>⟨?_,hw⟩
  rw[he];show _=Ending.returned (Value.int .i64 ((Lib.count s.data.toList [10]:Nat):Int));rw[Lib.count_one]
  rfl
 have c:=Any.strings_genSplit_core (P:=Tryz.prog) (ρ:=Tryz.lays146_ren) { Tryz.lays146 with } (by kernel_rfl) s ⟨#[10]⟩ 0 (-1) (Lib.countB s ⟨#[10]⟩+1) w hs h1 (Nat.zero_le _)
  (fun x c _=>zdq x _) hC (by decide) (by decide) (by rw[if_pos (by decide)]; omega)
 rw[Nat.add_sub_cancel,hlen] at c;have e2:Lib.cellsOf (Lib.splitB ⟨#[10]⟩ 0 (Lib.countB s ⟨#[10]⟩) s) (Lib.countB s ⟨#[10]⟩+1)=((Lib.splitB ⟨#[10]⟩ 0 (Lib.countB s ⟨#[10]⟩) s).map Value.string).toArray:=by rw[<- hlen]; exact Lib.cellsOf_full _
 rw[e2,<- hlen] at c;have HC:Hid (Calls Tryz.prog 94 #[.string s,.string ⟨#[10]⟩,.int .i64 0,.int .i64 (-1)] w fun e w'=>e=.returned (.slice (some ⟨w.heap.size,0,none⟩) (yU s).length (yU s).length)/\w'=w.alloc (.cells ((yU s).map Value.string).toArray 9)):=c;clear c e2 hC hle hlen;go_enter Tryz.func53,Tryz.ntmps53;go_wp2_with fail;refine HC.out.mono ?_;rintro e w' ⟨rfl,rfl⟩
 go_wp2
 go_ret;exact⟨rfl,rfl⟩
end Go.Proofs.YtedpiamfpbdhoaaGreatDoor
