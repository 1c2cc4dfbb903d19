import Derived.Test.YtedpiamfpbdhoaaGreatDoorJFg2
import Derived.Laws.EntriesVeiled
import Derived.Shelf.Strings.Builder1
import Derived.Shelf.Strings.Builder2
import Derived.Shelf.Small.Bits
import Derived.Shelf.Small.Strs
import Derived.Shelf.Strings.BuilderF
import Derived.Shelf.Strconv.Atoi
import Derived.Shelf.Strconv.Itoa0
import Derived.Shelf.Strconv.Itoa1
import Derived.Shelf.LaysM
import Derived.Shelf.Strconv.Itoa2
import Derived.Shelf.Strconv.Itoa3
import Derived.Shelf.Strconv.Clone
import Derived.Shelf.Strings.Search1
import Derived.Shelf.Strings.Search2
import Derived.Shelf.Strings.Search3
import Derived.Shelf.Strings.Count
import Derived.Shelf.Strings.Shaped
import Derived.Shelf.Sort.Plain
import Derived.Shelf.Strings.Split
import Derived.Shelf.Strings.Replace
import Derived.Shelf.Unicode.DecodeSlow
import Derived.Shelf.Unicode.DecodeAny
import Derived.Shelf.Slices.CompactS
import Derived.Shelf.Slices.Cells
import Derived.Shelf.Slices.In.SortNone
import Derived.Lib.UnsafeStr
set_option maxHeartbeats 40000000
set_option maxRecDepth 100000
namespace Go.Proofs.YtedpiamfpbdhoaaGreatDoor
open Go.RowKit
def QP (f d:Nat):Prop:=∀(B:Nat) (l:zB) (i:Nat) (w:World) (g:Nat) (lb:Array Value),(∀args w,(callFunc g args).run Tryz.prog w=.ok (.enter g args) w)->∀(R:Int->World->Prop),zv B l i w->
  (∀e,kR (pEx l f) l i=.bad e->∀w',Moved B w w'->R e w')->
  (∀x j,kR (pEx l f) l i=.ok x j->∀w' v,Moved B w w'->zv B l j w'->yC (zm w.heap.size w') w' x v->Calls Tryz.prog g (#[v]++lb) w' (zQ R))->
  Calls Tryz.prog 244 #[.pointer (some ⟨B,0,none⟩),.int .i64 d,.func (.func g) #[] lb] w (zQ R)
def Kz (f d:Nat):Prop:=∀(B:Nat) (l:zB) (i:Nat) (w:World) (g:Nat) (lb:Array Value),(∀args w,(callFunc g args).run Tryz.prog w=.ok (.enter g args) w)->∀(R:Int->World->Prop),zv B l i w->
  (∀e,Qy (pEx l f) l i=.bad e->∀w',Moved B w w'->R e w')->
  (∀x j,Qy (pEx l f) l i=.ok x j->∀w' v,Moved B w w'->zv B l j w'->yC (zm w.heap.size w') w' x v->Calls Tryz.prog g (#[v]++lb) w' (zQ R))->
  Calls Tryz.prog 290 #[.pointer (some ⟨B,0,none⟩),.int .i64 d,.func (.func g) #[] lb] w (zQ R)
theorem zfZ (B:Nat) (l:zB) (n0 j bp bx self:Nat) (caps:Array Value) (es:∀args w,(callFunc self args).run Tryz.prog w=.ok (.enter self args) w) (R:Int->World->Prop) (x p:Ex) (W:World) (k nu ke ne:Int) (fo s fe se:ByteArray) (va1 ve1:Option Addr) (va2 va3 ve2 ve3:Nat)
  (hBn:B<n0) (hnW:n0<=W.heap.size) (hr:zv B l j W) (kp:W.cell? ⟨bp,0,none⟩=some (.func (.func self) #[] caps))
  (b0:W.cell? ⟨bx,0,none⟩=some (.int .i64 k)) (b1:W.cell? ⟨bx,1,none⟩=some (.int .i64 nu)) (b2:W.cell? ⟨bx,2,none⟩=some (.string fo)) (b3:W.cell? ⟨bx,3,none⟩=some (.string s)) (b4:W.cell? ⟨bx,4,none⟩=some (.slice va1 va2 va3))
  (hx:xP (zm n0 W) W x k nu fo s (.slice va1 va2 va3)) (hp:xP (zm n0 W) W p ke ne fe se (.slice ve1 ve2 ve3))
  (hok:∀w' v,Moved B W w'->zv B l j w'->yC (zm n0 w') w' (zaK x p) v->Calls Tryz.prog self (#[v]++caps) w' (zQ R)) :
  Calls Tryz.prog 245 #[.agg #[.int .i64 ke,.int .i64 ne,.string fe,.string se,.slice ve1 ve2 ve3],.pointer (some ⟨bp,0,none⟩),.pointer (some ⟨bx,0,none⟩)] W (zQ R):=by
 have hlt:=xC hr;have hbpW:=World.block_lt_of_cell? W _ kp;have hbxW:bx<W.heap.size:=World.block_lt_of_cell? W _ b0;have hal:Below W.heap.size W ((W.alloc (.cells #[.int .i64 ke,.int .i64 ne,.string fe,.string se,.slice ve1 ve2 ve3] 70)).alloc (.cells #[.int .i64 k,.int .i64 nu,.string fo,.string s,.slice va1 va2 va3,.int .i64 ke,.int .i64 ne,.string fe,.string se,.slice ve1 ve2 ve3] 70)):=((Below.refl _ _).alloc (Nat.le_refl _) _).alloc (by simp) _;have hm2:Moved B W ((W.alloc (.cells #[.int .i64 ke,.int .i64 ne,.string fe,.string se,.slice ve1 ve2 ve3] 70)).alloc (.cells #[.int .i64 k,.int .i64 nu,.string fo,.string s,.slice va1 va2 va3,.int .i64 ke,.int .i64 ne,.string fe,.string se,.slice ve1 ve2 ve3] 70)):=Moved.of_below hal (by omega);have HK:=zd (hok _ _ hm2 (zS hr hal) (zei (W:=W.alloc (.cells #[.int .i64 ke,.int .i64 ne,.string fe,.string se,.slice ve1 ve2 ve3] 70)) (by simp; omega) (hx.keep (xH hBn hm2)) (hp.keep (xH hBn hm2)) 5));have hbpW':bp<W.heap.size:=hbpW;rw[show (W.alloc (.cells #[.int .i64 ke,.int .i64 ne,.string fe,.string se,.slice ve1 ve2 ve3] 70)).heap.size=W.heap.size+1 by simp] at HK;clear hok hx hp hr hal hm2;go_enter Tryz.func245,Tryz.ntmps245;go_wp2_with fail;refine HK.out.mono ?_;rintro e w' ⟨y,rfl,hy⟩;have HY:=zd hy;clear hy;go_wp2_with fail;go_ret;exact⟨_,rfl,HY.out⟩
theorem zel (f d:Nat) (hE:QP f d) (B:Nat) (l:zB) (n0:Nat) (g:Nat) (lb:Array Value) (eg:∀args w,(callFunc g args).run Tryz.prog w=.ok (.enter g args) w) (R:Int->World->Prop) (br bk bd bp:Nat) (hBn:B<n0) :
  ∀(n i:Nat) (x:Ex) (v:Value) (W:World),l.length - i<n->zv B l i W->yC (zm n0 W) W x v->Boxes B d g lb 243 br bk bd bp W->n0<=W.heap.size->
  (∀e,kj (pEx l f) l n x i=.bad e->∀w',Moved B W w'->R e w')->
  (∀y j,kj (pEx l f) l n x i=.ok y j->∀w' v',Moved B W w'->zv B l j w'->yC (zm n0 w') w' y v'->Calls Tryz.prog g (#[v']++lb) w' (zQ R))->
  Calls Tryz.prog 243 #[v,.pointer (some ⟨br,0,none⟩),.pointer (some ⟨bk,0,none⟩),.pointer (some ⟨bd,0,none⟩),.pointer (some ⟨bp,0,none⟩)] W (zQ R):=by
 intro n
 induction n with
 |zero=>intro i x v W hn; omega
 |succ n ih=>
  intro i x v W hn hr hx hbx hnW hbad hok;obtain⟨k,nu,fo,s,va,rfl,hcs⟩:=hx;obtain⟨va1,va2,va3,rfl⟩:=hcs.slice;have HIH:=zd ih;have HEg:=zd eg;have HE:=zd hE;have HBad:=zd hbad;have HOk:=zd hok;have HC:=zd hcs;have HBx:=zd hbx;have hlt:=xC hr;have hal:Below W.heap.size W (W.alloc (.cells #[.int .i64 k,.int .i64 nu,.string fo,.string s,.slice va1 va2 va3] 70)):=(Below.refl _ _).alloc (Nat.le_refl _) _;have HM0:Hid (Moved B W (W.alloc (.cells #[.int .i64 k,.int .i64 nu,.string fo,.string s,.slice va1 va2 va3] 70))):=Moved.of_below hal (by omega);have HR0:=zd (zS hr hal);have HP:Hid (kj (pEx l f) l (n+1) x i=if sgn l i [43]=true then (match kR (pEx l f) l (i+1) with
   |.bad e=>.bad e
   |.ok y j=>kj (pEx l f) l n (zaK x y) j) else .ok x i):=by show _=_; rw[kj]; rfl
  have hB0:=hbx.keep HM0.out;have c1:=hB0.r;have hef:=z8;have HB0:=zd hB0;clear hbad hok hr ih hal eg hcs hbx hE hB0;go_enter Tryz.func243,Tryz.ntmps243;go_wp2_with fail;refine (qh B l i ⟨#[43]⟩ _ HR0.out).mono ?_;rintro e w1 ⟨rfl,q1,q2⟩;have HN1:=zd q2;have HM1:=zd (HM0.out.trans q2);have hsz1:W.heap.size+1<=w1.heap.size:=by have:=q2.below.size; simpa using this
  have hB1:=HB0.out.keep q2;have e0:w1.cell? ⟨W.heap.size,0,none⟩=some (.int .i64 k):=(q2.cell (by omega) (by simp) 0).trans (World.cell?_alloc_at _ _ _ _ rfl);have e1:w1.cell? ⟨W.heap.size,1,none⟩=some (.int .i64 nu):=(q2.cell (by omega) (by simp) 1).trans (World.cell?_alloc_at _ _ _ _ rfl);have e2:w1.cell? ⟨W.heap.size,2,none⟩=some (.string fo):=(q2.cell (by omega) (by simp) 2).trans (World.cell?_alloc_at _ _ _ _ rfl);have e3:w1.cell? ⟨W.heap.size,3,none⟩=some (.string s):=(q2.cell (by omega) (by simp) 3).trans (World.cell?_alloc_at _ _ _ _ rfl);have e4:w1.cell? ⟨W.heap.size,4,none⟩=some (.slice va1 va2 va3):=(q2.cell (by omega) (by simp) 4).trans (World.cell?_alloc_at _ _ _ _ rfl);have k1:=hB1.r;have k2:=hB1.k;have k3:=hB1.d;have HB1:=zd hB1;clear hB1 c1
  cases hs:sgn l i [43]
  ·have hs':sgn l i (ByteArray.mk #[43]).data.toList=false:=hs
   rw[hs'] at q1;rw[if_neg (by rw[hs]; simp)] at HP;have HK:=zd (HOk.out _ _ HP.out w1 _ HM1.out q1 ⟨_,_,_,_,_,rfl,HC.out.keep (xH hBn HM1.out)⟩);have eg:=HEg.out
   try rw[hs']
   clear q1 q2 HBad HOk;go_wp2_with fail;refine HK.out.mono ?_;rintro e w' ⟨y,rfl,hy⟩;have HY:=zd hy;clear hy;go_wp2_with fail;go_ret;exact⟨_,rfl,HY.out⟩
  ·have hs':sgn l i (ByteArray.mk #[43]).data.toList=true:=hs
   have hil:=YD hs;rw[hs'] at q1;rw[if_pos hs] at HP;have HR1:Hid (zv B l (i+1) w1):=q1;have cI:=HE.out B l (i+1) w1 245 #[.pointer (some ⟨bp,0,none⟩),.pointer (some ⟨W.heap.size,0,none⟩)] (enters_of Tryz.func245 (by kernel_rfl) rfl) R HR1.out
    (fun e he w' hm=>HBad.out e (by rw[HP.out,he]) w' (HM1.out.trans hm))
    (fun p j hp W2 v hm hr2 hv=>by
     have hadv:=YC (fun i x j=>XC f i x j) hp;have hm2:=HM1.out.trans hm;have hB2:=HB1.out.keep hm;have hsz2:=hm.below.size;have b0:=(hm.cell (c:=W.heap.size) (by omega) (by omega) 0).trans e0;have b1:=(hm.cell (c:=W.heap.size) (by omega) (by omega) 1).trans e1;have b2:=(hm.cell (c:=W.heap.size) (by omega) (by omega) 2).trans e2;have b3:=(hm.cell (c:=W.heap.size) (by omega) (by omega) 3).trans e3;have b4:=(hm.cell (c:=W.heap.size) (by omega) (by omega) 4).trans e4;have hv2:=ZM (n:=n0) (by omega) hv;obtain⟨ke,ne,fe,se,ve,rfl,hce⟩:=hv2;obtain⟨ve1,ve2,ve3,rfl⟩:=hce.slice;have hcx:=HC.out.keep (xH hBn hm2);exact zfZ B l n0 j bp W.heap.size 243 #[.pointer (some ⟨br,0,none⟩),.pointer (some ⟨bk,0,none⟩),.pointer (some ⟨bd,0,none⟩),.pointer (some ⟨bp,0,none⟩)] (enters_of Tryz.func243 (by kernel_rfl) rfl) R x p W2 k nu ke ne fo s fe se va1 ve1 va2 va3 ve2 ve3 hBn (by omega) hr2 hB2.p b0 b1 b2 b3 b4 hcx hce
      (fun w' v' hm' hr' hv'=>HIH.out j (zaK x p) v' w' (by omega) hr' hv' (hB2.keep hm') (by have:=hm'.below.size; omega)
       (fun e he w'' hm''=>HBad.out e (by rw[HP.out,hp]; exact he) w'' ((hm2.trans hm').trans hm''))
       (fun y j' hy w'' v'' hm'' hr'' hv''=>HOk.out y j' (by rw[HP.out,hp]; exact hy) w'' v'' ((hm2.trans hm').trans hm'') hr'' hv'')))
   have HCI:=zd cI
   try rw[hs']
   clear q1 q2 HBad HOk cI;go_wp2_with fail;refine HCI.out.mono ?_;rintro e w' ⟨y,rfl,hy⟩;have HY:=zd hy;clear hy;go_wp2_with fail;go_ret;exact⟨_,rfl,HY.out⟩
theorem zaW (f d:Nat) (hd1:d<100) (hE:jd f (d+1)) (hH:Kz f d):QP f d:=by
 intro B l i w g lb eg R hr hbad hok;have hlt:=xC hr;have hal:Below w.heap.size w ((((w.alloc (.cells #[.pointer (some ⟨B,0,none⟩)] 160)).alloc (.cells #[.int .i64 d] 3)).alloc (.cells #[.func (.func g) #[] lb] 227)).alloc (.cells #[.func (.func 288) #[] #[.pointer (some ⟨w.heap.size,0,none⟩),.pointer (some ⟨w.heap.size+2,0,none⟩),.pointer (some ⟨w.heap.size+1,0,none⟩),.pointer (some ⟨w.heap.size+3,0,none⟩)]] 227)):=((((Below.refl _ _).alloc (Nat.le_refl _) _).alloc (by simp) _).alloc (by simp; omega) _).alloc (by simp; omega) _;have hm:Moved B w ((((w.alloc (.cells #[.pointer (some ⟨B,0,none⟩)] 160)).alloc (.cells #[.int .i64 d] 3)).alloc (.cells #[.func (.func g) #[] lb] 227)).alloc (.cells #[.func (.func 288) #[] #[.pointer (some ⟨w.heap.size,0,none⟩),.pointer (some ⟨w.heap.size+2,0,none⟩),.pointer (some ⟨w.heap.size+1,0,none⟩),.pointer (some ⟨w.heap.size+3,0,none⟩)]] 227)):=Moved.of_below hal (by omega);have hbx:Boxes B d g lb 288 w.heap.size (w.heap.size+2) (w.heap.size+1) (w.heap.size+3) ((((w.alloc (.cells #[.pointer (some ⟨B,0,none⟩)] 160)).alloc (.cells #[.int .i64 d] 3)).alloc (.cells #[.func (.func g) #[] lb] 227)).alloc (.cells #[.func (.func 288) #[] #[.pointer (some ⟨w.heap.size,0,none⟩),.pointer (some ⟨w.heap.size+2,0,none⟩),.pointer (some ⟨w.heap.size+1,0,none⟩),.pointer (some ⟨w.heap.size+3,0,none⟩)]] 227)):=by
  refine⟨?_,?_,?_,World.cell?_alloc_at _ _ _ _ (by simp),by omega,by omega,by omega,by omega⟩
  ·exact (World.cell?_alloc_old _ _ _ (by first|(simp; done)|(simp; omega))).trans ((World.cell?_alloc_old _ _ _ (by first|(simp; done)|(simp; omega))).trans ((World.cell?_alloc_old _ _ _ (by first|(simp; done)|(simp; omega))).trans (World.cell?_alloc_at _ _ _ _ rfl)))
  ·exact (World.cell?_alloc_old _ _ _ (by first|(simp; done)|(simp; omega))).trans (World.cell?_alloc_at _ _ _ _ (by simp))
  ·exact (World.cell?_alloc_old _ _ _ (by first|(simp; done)|(simp; omega))).trans ((World.cell?_alloc_old _ _ _ (by first|(simp; done)|(simp; omega))).trans (World.cell?_alloc_at _ _ _ _ (by simp)))
 have cI:=hH B l i ((((w.alloc (.cells #[.pointer (some ⟨B,0,none⟩)] 160)).alloc (.cells #[.int .i64 d] 3)).alloc (.cells #[.func (.func g) #[] lb] 227)).alloc (.cells #[.func (.func 288) #[] #[.pointer (some ⟨w.heap.size,0,none⟩),.pointer (some ⟨w.heap.size+2,0,none⟩),.pointer (some ⟨w.heap.size+1,0,none⟩),.pointer (some ⟨w.heap.size+3,0,none⟩)]] 227)) 288 #[.pointer (some ⟨w.heap.size,0,none⟩),.pointer (some ⟨w.heap.size+2,0,none⟩),.pointer (some ⟨w.heap.size+1,0,none⟩),.pointer (some ⟨w.heap.size+3,0,none⟩)] (enters_of Tryz.func288 (by kernel_rfl) rfl) R (zS hr hal)
  (fun e he w' hm'=>hbad e (by rw[kR,he]) w' (hm.trans hm'))
  (fun x j hx w' v hm' hr' hv=>zbW f d hd1 hE B l w.heap.size g lb eg R w.heap.size (w.heap.size+2) (w.heap.size+1) (w.heap.size+3) hlt (l.length+1) j x v w' (by omega) hr' (ZM (by simp; omega) hv) (hbx.keep hm') (by have:=hm'.below.size; simp at this; omega)
   (fun e he w'' hm''=>hbad e (by rw[kR,hx]; exact he) w'' ((hm.trans hm').trans hm''))
   (fun y j' hy w'' v' hm'' hr'' hv'=>hok y j' (by rw[kR,hx]; exact hy) w'' v' ((hm.trans hm').trans hm'') hr'' hv'))
 have HCI:=zd cI;have hef:=z8;clear cI hbad hok hr hal hm hbx hH eg;go_enter Tryz.func244,Tryz.ntmps244;go_wp2_with fail;refine HCI.out.mono ?_;rintro e w' ⟨y,rfl,hy⟩;have HY:=zd hy;clear hy;go_wp2_with fail;go_ret;exact⟨_,rfl,HY.out⟩
theorem zem (d:Nat) (hd:40<d) (hd2:d<100):jd 0 d:=by
 intro B l i w g lb eg R hr hbad hok;have hlt:=xC hr;have hd':(40:Int)<(d:Int):=by omega
 have HB:=zd (hbad 1 (by rw[pEx]) (((w.alloc (.cells #[.pointer (some ⟨B,0,none⟩)] 160)).alloc (.cells #[.int .i64 d] 3)).alloc (.cells #[.func (.func g) #[] lb] 227)) (((Moved.of_below ((Below.refl _ _).alloc (Nat.le_refl _) _) (by omega)).alloc (by simp; omega) _).alloc (by simp; omega) _));clear hbad hok eg hr hd2;go_enter Tryz.func172,Tryz.ntmps172;go_wp2_with fail;go_ret;exact⟨_,rfl,HB.out⟩
theorem zen (f d:Nat) (hd1:d<=40) (hH:QP f d):jd (f+1) d:=by
 intro B l i w g lb eg R hr hbad hok;have hH':=hH;have hlt:=xC hr;have hal:Below w.heap.size w ((((w.alloc (.cells #[.pointer (some ⟨B,0,none⟩)] 160)).alloc (.cells #[.int .i64 d] 3)).alloc (.cells #[.func (.func g) #[] lb] 227)).alloc (.cells #[.func (.func 243) #[] #[.pointer (some ⟨w.heap.size,0,none⟩),.pointer (some ⟨w.heap.size+2,0,none⟩),.pointer (some ⟨w.heap.size+1,0,none⟩),.pointer (some ⟨w.heap.size+3,0,none⟩)]] 227)):=((((Below.refl _ _).alloc (Nat.le_refl _) _).alloc (by simp) _).alloc (by simp; omega) _).alloc (by simp; omega) _;have hm:Moved B w ((((w.alloc (.cells #[.pointer (some ⟨B,0,none⟩)] 160)).alloc (.cells #[.int .i64 d] 3)).alloc (.cells #[.func (.func g) #[] lb] 227)).alloc (.cells #[.func (.func 243) #[] #[.pointer (some ⟨w.heap.size,0,none⟩),.pointer (some ⟨w.heap.size+2,0,none⟩),.pointer (some ⟨w.heap.size+1,0,none⟩),.pointer (some ⟨w.heap.size+3,0,none⟩)]] 227)):=Moved.of_below hal (by omega);have hbx:Boxes B d g lb 243 w.heap.size (w.heap.size+2) (w.heap.size+1) (w.heap.size+3) ((((w.alloc (.cells #[.pointer (some ⟨B,0,none⟩)] 160)).alloc (.cells #[.int .i64 d] 3)).alloc (.cells #[.func (.func g) #[] lb] 227)).alloc (.cells #[.func (.func 243) #[] #[.pointer (some ⟨w.heap.size,0,none⟩),.pointer (some ⟨w.heap.size+2,0,none⟩),.pointer (some ⟨w.heap.size+1,0,none⟩),.pointer (some ⟨w.heap.size+3,0,none⟩)]] 227)):=by
  refine⟨?_,?_,?_,World.cell?_alloc_at _ _ _ _ (by simp),by omega,by omega,by omega,by omega⟩
  ·exact (World.cell?_alloc_old _ _ _ (by first|(simp; done)|(simp; omega))).trans ((World.cell?_alloc_old _ _ _ (by first|(simp; done)|(simp; omega))).trans ((World.cell?_alloc_old _ _ _ (by first|(simp; done)|(simp; omega))).trans (World.cell?_alloc_at _ _ _ _ rfl)))
  ·exact (World.cell?_alloc_old _ _ _ (by first|(simp; done)|(simp; omega))).trans (World.cell?_alloc_at _ _ _ _ (by simp))
  ·exact (World.cell?_alloc_old _ _ _ (by first|(simp; done)|(simp; omega))).trans ((World.cell?_alloc_old _ _ _ (by first|(simp; done)|(simp; omega))).trans (World.cell?_alloc_at _ _ _ _ (by simp)))
 have cI:=hH B l i ((((w.alloc (.cells #[.pointer (some ⟨B,0,none⟩)] 160)).alloc (.cells #[.int .i64 d] 3)).alloc (.cells #[.func (.func g) #[] lb] 227)).alloc (.cells #[.func (.func 243) #[] #[.pointer (some ⟨w.heap.size,0,none⟩),.pointer (some ⟨w.heap.size+2,0,none⟩),.pointer (some ⟨w.heap.size+1,0,none⟩),.pointer (some ⟨w.heap.size+3,0,none⟩)]] 227)) 243 #[.pointer (some ⟨w.heap.size,0,none⟩),.pointer (some ⟨w.heap.size+2,0,none⟩),.pointer (some ⟨w.heap.size+1,0,none⟩),.pointer (some ⟨w.heap.size+3,0,none⟩)] (enters_of Tryz.func243 (by kernel_rfl) rfl) R (zS hr hal)
  (fun e he w' hm'=>hbad e (by rw[pEx,he]) w' (hm.trans hm'))
  (fun x j hx w' v hm' hr' hv=>zel f d hH' B l w.heap.size g lb eg R w.heap.size (w.heap.size+2) (w.heap.size+1) (w.heap.size+3) hlt (l.length+1) j x v w' (by omega) hr' (ZM (by simp; omega) hv) (hbx.keep hm') (by have:=hm'.below.size; simp at this; omega)
   (fun e he w'' hm''=>hbad e (by rw[pEx,hx]; exact he) w'' ((hm.trans hm').trans hm''))
   (fun y j' hy w'' v' hm'' hr'' hv'=>hok y j' (by rw[pEx,hx]; exact hy) w'' v' ((hm.trans hm').trans hm'') hr'' hv'))
 have HCI:=zd cI;have hef:=z8;have hd':¬(40:Int)<(d:Int):=by omega
 clear cI hbad hok hr hal hm hbx hH hH' eg;go_enter Tryz.func172,Tryz.ntmps172;go_wp2_with fail;refine HCI.out.mono ?_;rintro e w' ⟨y,rfl,hy⟩;have HY:=zd hy;clear hy;go_wp2_with fail;go_ret;exact⟨_,rfl,HY.out⟩
def YE (f d:Nat):Prop:=∀(B:Nat) (l:zB) (i:Nat) (fin:ByteArray) (w:World) (g:Nat) (lb:Array Value),(∀args w,(callFunc g args).run Tryz.prog w=.ok (.enter g args) w)->∀(R:Int->World->Prop),zv B l i w->
  (∀e,qZ (pEx l f) l fin.data.toList (l.length+1) [] i=.bad e->∀w',Moved B w w'->R e w')->
  (∀xs j,qZ (pEx l f) l fin.data.toList (l.length+1) [] i=.ok xs j->∀w' v,Moved B w w'->zv B l j w'->ze (zm w.heap.size w') (yB (zm w.heap.size w') w') 5 xs v->Calls Tryz.prog g (#[v]++lb) w' (zQ R))->
  Calls Tryz.prog 312 #[.pointer (some ⟨B,0,none⟩),.int .i64 d,.string fin,.func (.func g) #[] lb] w (zQ R)
def KA (f d:Nat):Prop:=∀(B:Nat) (l:zB) (i:Nat) (w:World) (g:Nat) (lb:Array Value),(∀args w,(callFunc g args).run Tryz.prog w=.ok (.enter g args) w)->∀(R:Int->World->Prop),zv B l i w->
  (∀e,ZZ (pEx l f) l i=.bad e->∀w',Moved B w w'->R e w')->
  (∀x j,ZZ (pEx l f) l i=.ok x j->∀w' v,Moved B w w'->zv B l j w'->yC (zm w.heap.size w') w' x v->Calls Tryz.prog g (#[v]++lb) w' (zQ R))->
  Calls Tryz.prog 315 #[.pointer (some ⟨B,0,none⟩),.int .i64 d,.func (.func g) #[] lb] w (zQ R)
theorem KB (g:Nat) (lb:Array Value) (eg:∀args w,(callFunc g args).run Tryz.prog w=.ok (.enter g args) w) (R:Int->World->Prop) (bk bo bn:Nat) (o n:ByteArray) (va1:Option Addr) (va2 va3:Nat) (W:World)
  (hk:W.cell? ⟨bk,0,none⟩=some (.func (.func g) #[] lb)) (ho:W.cell? ⟨bo,0,none⟩=some (.string o)) (hn:W.cell? ⟨bn,0,none⟩=some (.string n))
  (h:Calls Tryz.prog g (#[.agg #[.int .i64 4,.int .i64 0,.string o,.string n,.slice va1 va2 va3]]++lb) W (zQ R)) :
  Calls Tryz.prog 333 #[.slice va1 va2 va3,.pointer (some ⟨bk,0,none⟩),.pointer (some ⟨bo,0,none⟩),.pointer (some ⟨bn,0,none⟩)] W (zQ R):=by
 have HK:=zd h;clear h;go_enter Tryz.func333,Tryz.ntmps333;go_wp2_with fail;refine HK.out.mono ?_;rintro e w' ⟨y,rfl,hy⟩;have HY:=zd hy;clear hy;go_wp2_with fail;go_ret;exact⟨_,rfl,HY.out⟩
theorem zeo (f d:Nat) (hA:YE f d):KA f d:=by
 intro B l i w g lb eg R hr hbad hok;have hlt:=xC hr;have hal:Below w.heap.size w (w.alloc (.cells #[.func (.func g) #[] lb] 227)):=(Below.refl _ _).alloc (Nat.le_refl _) _;have HM0:Hid (Moved B w (w.alloc (.cells #[.func (.func g) #[] lb] 227))):=Moved.of_below hal (by omega);have HR0:=zd (zS hr hal);have HBad:=zd hbad;have HOk:=zd hok;have HEg:=zd eg;have HA:=zd hA;have hef:=z8;have HP:Hid (ZZ (pEx l f) l i=match ym l i with
  |.bad e=>.bad e
  |.ok x j=>if sgn l j [40]=true then (if sgn l (j+1) [41]=true then .ok (Yw x.1 x.2 []) (j+2) else match qZ (pEx l f) l [41] (l.length+1) [] (j+1) with
    |.bad e=>.bad e
    |.ok xs j'=>.ok (Yw x.1 x.2 xs) j') else if qv x.1=true then .ok (zcD x.2) j else .bad 4):=by show _=_; unfold ZZ; rfl
 clear hbad hok hr hal eg hA;go_enter Tryz.func315,Tryz.ntmps315;go_wp2_with fail;refine (Kw B l i _ HR0.out).mono ?_;rintro e w1 ⟨hm,⟨hn,o,t,rfl⟩|⟨o,t,j,hn,ho,hti,rfl,hr⟩⟩
 ·rw[hn] at HP
  have hsz1:w.heap.size+1<=w1.heap.size:=by have:=hm.below.size; simpa using this
  have HB:=zd (HBad.out _ HP.out ((w1.alloc (.cells #[.string o] 9)).alloc (.cells #[.string t] 9)) (((HM0.out.trans hm).alloc (by omega) _).alloc (by simp; omega) _));clear hm hn HBad HOk;go_wp2_with fail;go_ret;exact⟨_,rfl,HB.out⟩
 ·rw[hn] at HP
  have hsz1:w.heap.size+1<=w1.heap.size:=by have:=hm.below.size; simpa using this
  have hal2:Below w1.heap.size w1 ((w1.alloc (.cells #[.string o] 9)).alloc (.cells #[.string t] 9)):=((Below.refl _ _).alloc (Nat.le_refl _) _).alloc (by simp) _;have HM2:Hid (Moved B w ((w1.alloc (.cells #[.string o] 9)).alloc (.cells #[.string t] 9))):=(HM0.out.trans hm).trans (Moved.of_below hal2 (by omega));have hck:w1.cell? ⟨w.heap.size,0,none⟩=some (.func (.func g) #[] lb):=(hm.cell (by omega) (by simp) 0).trans (World.cell?_alloc_at _ _ _ _ rfl);have HR2:=zd (zS hr hal2);have hw2:∃w2,((w1.alloc (.cells #[.string o] 9)).alloc (.cells #[.string t] 9))=w2/\w2.cell? ⟨w.heap.size,0,none⟩=some (.func (.func g) #[] lb)/\w2.cell? ⟨w1.heap.size,0,none⟩=some (.string o)/\w2.cell? ⟨w1.heap.size+1,0,none⟩=some (.string t)/\w2.heap.size=w1.heap.size+2:=
   ⟨_,rfl,(World.cell?_alloc_old _ _ _ (by simp; omega)).trans ((World.cell?_alloc_old _ _ _ (by show w.heap.size≠_; omega)).trans hck),(World.cell?_alloc_old _ _ _ (by simp)).trans (World.cell?_alloc_at _ _ _ _ rfl),World.cell?_alloc_at _ _ _ _ (by simp),by simp⟩
  have hos:=YA ho;have hts:=ZL hti;have HNN:=zd (vz o []);clear hm hn hr hal2 hck;obtain⟨w2,hwe,x0,x1,x2,hs2⟩:=hw2;rw[hwe] at HM2 HR2;have HX:=zd (show ∀W,Moved B w2 W->W.cell? ⟨w.heap.size,0,none⟩=some (.func (.func g) #[] lb)/\W.cell? ⟨w1.heap.size,0,none⟩=some (.string o)/\W.cell? ⟨w1.heap.size+1,0,none⟩=some (.string t) from fun W h=>⟨(h.cell (by omega) (by omega) 0).trans x0,(h.cell (by omega) (by omega) 0).trans x1,(h.cell (by omega) (by omega) 0).trans x2⟩);go_wp2_with fail
  try rw[hwe]
  refine (qh B l j ⟨#[40]⟩ _ HR2.out).mono ?_;rintro e w3 ⟨rfl,q1,q2⟩;have HN3:=zd q2;have HM3:=zd (HM2.out.trans q2);have hsz3:=q2.below.size;obtain⟨y0,y1,y2⟩:=HX.out w3 q2;clear x0 x1 x2
  cases hs:sgn l j [40]
  ·have hs':sgn l j (ByteArray.mk #[40]).data.toList=false:=hs
   rw[hs'] at q1;rw[if_neg (by rw[hs]; simp)] at HP;have HR3:Hid (zv B l j w3):=q1
   try rw[hs']
   cases hoe:(o.toList==[])
   ·rw[if_neg (by rw[qv,<- HNN.out,hoe]; simp)] at HP
    have HB:=zd (HBad.out _ HP.out w3 HM3.out);clear q1 q2 HBad HOk hwe;go_wp2_with fail;go_ret;exact⟨_,rfl,HB.out⟩
   ·rw[if_pos (by rw[qv,<- HNN.out,hoe])] at HP
    have HK:=zd (HOk.out _ _ HP.out w3 (.agg #[.int .i64 3,.int .i64 0,.string ⟨#[]⟩,.string t,.slice none 0 0]) HM3.out HR3.out ⟨_,_,_,_,_,rfl,[],rfl,yi,hts,yo⟩);have eg:=HEg.out;clear q1 q2 HBad HOk hwe;go_wp2_with fail;refine HK.out.mono ?_;rintro e w' ⟨y,rfl,hy⟩;have HY:=zd hy;clear hy;go_wp2_with fail;go_ret;exact⟨_,rfl,HY.out⟩
  ·have hs':sgn l j (ByteArray.mk #[40]).data.toList=true:=hs
   rw[hs'] at q1;rw[if_pos hs] at HP;have HR3:Hid (zv B l (j+1) w3):=q1
   try rw[hs']
   clear q1 q2;go_wp2_with fail;refine (qh B l (j+1) ⟨#[41]⟩ _ HR3.out).mono ?_;rintro e w4 ⟨rfl,q1,q2⟩;have HN4:=zd (HN3.out.trans q2);have HM4:=zd (HM3.out.trans q2);have hsz4:=q2.below.size;obtain⟨z0,z1,z2⟩:=HX.out w4 HN4.out;clear y0 y1 y2
   cases hc:sgn l (j+1) [41]
   ·have hc':sgn l (j+1) (ByteArray.mk #[41]).data.toList=false:=hc
    rw[hc'] at q1;rw[if_neg (by rw[hc]; simp)] at HP;have cA:=HA.out B l (j+1) ⟨#[41]⟩ w4 333 #[.pointer (some ⟨w.heap.size,0,none⟩),.pointer (some ⟨w1.heap.size,0,none⟩),.pointer (some ⟨w1.heap.size+1,0,none⟩)] (enters_of Tryz.func333 (by kernel_rfl) rfl) R q1
     (fun e he w' hm=>HBad.out e (by rw[HP.out]; rw[show qZ (pEx l f) l [41] (l.length+1) [] (j+1)=.bad e from he]) w' (HM4.out.trans hm))
     (fun xs j' hx w' v hm hr' hv=>by
      obtain⟨va1,va2,va3,rfl⟩:=hv.slice;obtain⟨u0,u1,u2⟩:=HX.out w' (HN4.out.trans hm);refine KB g lb HEg.out R _ _ _ o t va1 va2 va3 w' u0 u1 u2 ?_;exact HOk.out (Yw o t xs) j' (by rw[HP.out]; rw[show qZ (pEx l f) l [41] (l.length+1) [] (j+1)=.ok xs j' from hx]) w' _ (HM4.out.trans hm) hr' ⟨_,_,_,_,_,rfl,xs,rfl,hos,hts,jA ⟨fun _ _=>rfl,fun _ hb=>⟨by have:=hb.1; omega,hb.2⟩⟩ hv⟩)
    have HCA:=zd cA
    try rw[hc']
    clear q1 q2 HBad HOk cA hwe;go_wp2_with fail;refine HCA.out.mono ?_;rintro e w' ⟨y,rfl,hy⟩;have HY:=zd hy;clear hy;go_wp2_with fail;go_ret;exact⟨_,rfl,HY.out⟩
   ·have hc':sgn l (j+1) (ByteArray.mk #[41]).data.toList=true:=hc
    rw[hc'] at q1;rw[if_pos hc] at HP;have HCA:=zd (KB g lb HEg.out R _ _ _ o t none 0 0 w4 z0 z1 z2 (HOk.out _ _ HP.out w4 _ HM4.out q1 ⟨_,_,_,_,_,rfl,[],rfl,hos,hts,yo⟩));have ec:=enters_of (P:=Tryz.prog) Tryz.func333 (by kernel_rfl) rfl
    try rw[hc']
    clear q1 q2 HBad HOk hwe;go_wp2_with fail;refine HCA.out.mono ?_;rintro e w' ⟨y,rfl,hy⟩;have HY:=zd hy;clear hy;go_wp2_with fail;go_ret;exact⟨_,rfl,HY.out⟩
end Go.Proofs.YtedpiamfpbdhoaaGreatDoor
namespace Go.Proofs
open Go.Shelf
def Tryz.lays172_ren:Go.Shelf.Ren:=⟨fun|172=>314|244=>331|245=>332|247=>340|279=>341|280=>342|281=>343|282=>344|287=>349|316=>111|171=>139|205=>350|321=>352|322=>353|243=>214|246=>278|283=>306|284=>307|285=>308|286=>309|129=>151|317=>325|318=>326|319=>327|320=>328|337=>337|338=>338|n=>n,fun|9=>9|3=>3|75=>143|76=>144|4=>4|5=>5|167=>336|37=>79|0=>0|85=>337|2=>2|168=>339|53=>212|175=>347|46=>154|210=>350|127=>149|145=>355|143=>353|21=>21|171=>309|173=>311|212=>328|51=>210|20=>20|213=>329|232=>345|233=>346|80=>89|n=>n,fun|15=>7|16=>8|17=>4|18=>5|19=>6|n=>n⟩
theorem Tryz.lays172:Go.Proofs.Lays.n172 Tryz.prog Tryz.lays172_ren:={
 mixed:=by kernel_rfl
 f129:=Tryz.func151.trans (congrArg some (by kernel_rfl))
 f171:=Tryz.func139.trans (congrArg some (by kernel_rfl))
 f172:=Tryz.func314.trans (congrArg some (by kernel_rfl))
 f205:=Tryz.func350.trans (congrArg some (by kernel_rfl))
 f243:=Tryz.func214.trans (congrArg some (by kernel_rfl))
 f244:=Tryz.func331.trans (congrArg some (by kernel_rfl))
 f245:=Tryz.func332.trans (congrArg some (by kernel_rfl))
 f246:=Tryz.func278.trans (congrArg some (by kernel_rfl))
 f247:=Tryz.func340.trans (congrArg some (by kernel_rfl))
 f279:=Tryz.func341.trans (congrArg some (by kernel_rfl))
 f280:=Tryz.func342.trans (congrArg some (by kernel_rfl))
 f281:=Tryz.func343.trans (congrArg some (by kernel_rfl))
 f282:=Tryz.func344.trans (congrArg some (by kernel_rfl))
 f283:=Tryz.func306.trans (congrArg some (by kernel_rfl))
 f284:=Tryz.func307.trans (congrArg some (by kernel_rfl))
 f285:=Tryz.func308.trans (congrArg some (by kernel_rfl))
 f286:=Tryz.func309.trans (congrArg some (by kernel_rfl))
 f287:=Tryz.func349.trans (congrArg some (by kernel_rfl))
 f316:=Tryz.func111.trans (congrArg some (by kernel_rfl))
 f317:=Tryz.func325.trans (congrArg some (by kernel_rfl))
 f318:=Tryz.func326.trans (congrArg some (by kernel_rfl))
 f319:=Tryz.func327.trans (congrArg some (by kernel_rfl))
 f320:=Tryz.func328.trans (congrArg some (by kernel_rfl))
 f321:=Tryz.func352.trans (congrArg some (by kernel_rfl))
 f322:=Tryz.func353.trans (congrArg some (by kernel_rfl))
 f337:=Tryz.func337.trans (congrArg some (by kernel_rfl))
 f338:=Tryz.func338.trans (congrArg some (by kernel_rfl))
 t0:=Tryz.underlying0
 a0:=Tryz.isAgg0
 z0:=Tryz.sizeOf0
 v0:=Tryz.zeroValue0
 t2:=Tryz.underlying2
 a2:=Tryz.isAgg2
 z2:=Tryz.sizeOf2
 v2:=Tryz.zeroValue2
 t3:=Tryz.underlying3
 a3:=Tryz.isAgg3
 z3:=Tryz.sizeOf3
 v3:=Tryz.zeroValue3
 t4:=Tryz.underlying4
 a4:=Tryz.isAgg4
 z4:=Tryz.sizeOf4
 v4:=Tryz.zeroValue4
 t5:=Tryz.underlying5
 a5:=Tryz.isAgg5
 z5:=Tryz.sizeOf5
 v5:=Tryz.zeroValue5
 t9:=Tryz.underlying9
 a9:=Tryz.isAgg9
 z9:=Tryz.sizeOf9
 v9:=Tryz.zeroValue9
 t20:=Tryz.underlying20
 a20:=Tryz.isAgg20
 z20:=Tryz.sizeOf20
 v20:=Tryz.zeroValue20
 t21:=Tryz.underlying21
 a21:=Tryz.isAgg21
 z21:=Tryz.sizeOf21
 v21:=Tryz.zeroValue21
 t37:=Tryz.underlying79
 a37:=Tryz.isAgg79
 z37:=Tryz.sizeOf79
 v37:=Tryz.zeroValue79
 t46:=Tryz.underlying154
 a46:=Tryz.isAgg154
 z46:=Tryz.sizeOf154
 v46:=Tryz.zeroValue154
 t51:=Tryz.underlying210
 a51:=Tryz.isAgg210
 z51:=Tryz.sizeOf210
 v51:=Tryz.zeroValue210
 t53:=Tryz.underlying212
 a53:=Tryz.isAgg212
 z53:=Tryz.sizeOf212
 v53:=Tryz.zeroValue212
 t75:=Tryz.underlying143
 a75:=Tryz.isAgg143
 z75:=Tryz.sizeOf143
 v75:=Tryz.zeroValue143
 t76:=Tryz.underlying144
 a76:=Tryz.isAgg144
 z76:=Tryz.sizeOf144
 v76:=Tryz.zeroValue144
 t85:=Tryz.underlying337
 a85:=Tryz.isAgg337
 z85:=Tryz.sizeOf337
 v85:=Tryz.zeroValue337
 t127:=Tryz.underlying149
 a127:=Tryz.isAgg149
 z127:=Tryz.sizeOf149
 v127:=Tryz.zeroValue149
 t143:=Tryz.underlying353
 a143:=Tryz.isAgg353
 z143:=Tryz.sizeOf353
 v143:=Tryz.zeroValue353
 t145:=Tryz.underlying355
 a145:=Tryz.isAgg355
 z145:=Tryz.sizeOf355
 v145:=Tryz.zeroValue355
 t167:=Tryz.underlying336
 a167:=Tryz.isAgg336
 z167:=Tryz.sizeOf336
 v167:=Tryz.zeroValue336
 t168:=Tryz.underlying339
 a168:=Tryz.isAgg339
 z168:=Tryz.sizeOf339
 v168:=Tryz.zeroValue339
 t171:=Tryz.underlying309
 a171:=Tryz.isAgg309
 z171:=Tryz.sizeOf309
 v171:=Tryz.zeroValue309
 t173:=Tryz.underlying311
 a173:=Tryz.isAgg311
 z173:=Tryz.sizeOf311
 v173:=Tryz.zeroValue311
 t175:=Tryz.underlying347
 a175:=Tryz.isAgg347
 z175:=Tryz.sizeOf347
 v175:=Tryz.zeroValue347
 t210:=Tryz.underlying350
 a210:=Tryz.isAgg350
 z210:=Tryz.sizeOf350
 v210:=Tryz.zeroValue350
 t212:=Tryz.underlying328
 a212:=Tryz.isAgg328
 z212:=Tryz.sizeOf328
 v212:=Tryz.zeroValue328
 t213:=Tryz.underlying329
 a213:=Tryz.isAgg329
 z213:=Tryz.sizeOf329
 t232:=Tryz.underlying345
 a232:=Tryz.isAgg345
 z232:=Tryz.sizeOf345
 v232:=Tryz.zeroValue345
 t233:=Tryz.underlying346
 a233:=Tryz.isAgg346
 z233:=Tryz.sizeOf346
 v233:=Tryz.zeroValue346
 g15:=by kernel_rfl
 g16:=by kernel_rfl
 g17:=by kernel_rfl
 g18:=by kernel_rfl
 g19:=by kernel_rfl }
open Go.RowKit in
theorem Tryz.strconv_Atoi (s:ByteArray) (n:Int) (hl:s.size<=18) (h:Lib.atoi s.data.toList=some n) (w:World) :
  Calls Tryz.prog 314 #[.string s] w fun e w'=>e=.returned (.tuple #[.int .i64 n,.nilIface])/\∃t,w'=Lib.bytesWorld w 5 t:=Any.strconv_Atoi Tryz.lays172 s n hl h w
def Tryz.laysM316_ren:Go.Shelf.Ren:=⟨fun|316=>111|n=>n,fun|9=>9|3=>3|4=>4|37=>79|0=>0|127=>149|5=>5|n=>n,fun|n=>n⟩
theorem Tryz.laysM316:Go.Proofs.LaysM.n316 Tryz.prog Tryz.laysM316_ren:={
 mixed:=by kernel_rfl
 f316:=Tryz.func111.trans (congrArg some (by kernel_rfl))
 t0:=Tryz.underlying0
 a0:=Tryz.isAgg0
 z0:=Tryz.sizeOf0
 v0:=Tryz.zeroValue0
 t3:=Tryz.underlying3
 a3:=Tryz.isAgg3
 z3:=Tryz.sizeOf3
 v3:=Tryz.zeroValue3
 t4:=Tryz.underlying4
 a4:=Tryz.isAgg4
 z4:=Tryz.sizeOf4
 v4:=Tryz.zeroValue4
 t9:=Tryz.underlying9
 a9:=Tryz.isAgg9
 z9:=Tryz.sizeOf9
 v9:=Tryz.zeroValue9
 t37:=Tryz.underlying79
 a37:=Tryz.isAgg79
 z37:=Tryz.sizeOf79
 v37:=Tryz.zeroValue79
 t127:=Tryz.underlying149
 a127:=Tryz.isAgg149
 z127:=Tryz.sizeOf149
 v127:=Tryz.zeroValue149
 t5:=Tryz.underlying5
 a5:=Tryz.isAgg5
 z5:=Tryz.sizeOf5
 v5:=Tryz.zeroValue5
 i0:=by kernel_rfl
 i3:=by kernel_rfl
 i4:=by kernel_rfl
 i5:=by kernel_rfl
 i9:=by kernel_rfl
 i37:=by kernel_rfl
 i127:=by kernel_rfl }
open Go.RowKit in
theorem Tryz.stringslite_Clone (s:ByteArray) (w:World) (hlim:s.size<=281474976710656) :
  Calls Tryz.prog 111 #[.string s] w fun e w'=>e=.returned (.string s)/\Below w.heap.size w w':=Any.stringslite_Clone Tryz.laysM316 s w hlim
def Tryz.lays217_ren:Go.Shelf.Ren:=⟨fun|217=>226|266=>280|n=>n,fun|9=>9|5=>5|3=>3|n=>n,fun|n=>n⟩
theorem Tryz.lays217:Go.Proofs.Lays.n217 Tryz.prog Tryz.lays217_ren:={
 mixed:=by kernel_rfl
 f217:=Tryz.func226.trans (congrArg some (by kernel_rfl))
 f266:=Tryz.func280.trans (congrArg some (by kernel_rfl))
 t3:=Tryz.underlying3
 a3:=Tryz.isAgg3
 z3:=Tryz.sizeOf3
 v3:=Tryz.zeroValue3
 t5:=Tryz.underlying5
 a5:=Tryz.isAgg5
 z5:=Tryz.sizeOf5
 v5:=Tryz.zeroValue5
 t9:=Tryz.underlying9
 a9:=Tryz.isAgg9
 z9:=Tryz.sizeOf9
 v9:=Tryz.zeroValue9 }
open Go.RowKit Go.Lib in
theorem Tryz.stringslite_IndexByte (s:ByteArray) (c:Int) (w:World) :
  Calls Tryz.prog 226 #[.string s,.int .u8 c] w fun e w'=>e=.returned (.int .i64 (Lib.indexByte s.data.toList c.toNat.toUInt8))/\w'=w:=Any.stringslite_IndexByte Tryz.lays217 s c w
def Tryz.lays146_ren:Go.Shelf.Ren:=⟨fun|146=>53|221=>94|268=>156|138=>157|143=>158|195=>227|197=>228|218=>229|219=>230|260=>281|217=>226|225=>282|224=>283|267=>284|266=>280|314=>310|n=>n,fun|9=>9|31=>37|3=>3|4=>4|0=>0|105=>267|21=>21|5=>5|46=>154|119=>313|139=>316|138=>315|146=>317|51=>210|n=>n,fun|1=>1|3=>2|4=>3|n=>n⟩
theorem Tryz.lays146:Go.Proofs.Lays.n146 Tryz.prog Tryz.lays146_ren:={
 mixed:=by kernel_rfl
 f138:=Tryz.func157.trans (congrArg some (by kernel_rfl))
 f143:=Tryz.func158.trans (congrArg some (by kernel_rfl))
 f146:=Tryz.func53.trans (congrArg some (by kernel_rfl))
 f195:=Tryz.func227.trans (congrArg some (by kernel_rfl))
 f197:=Tryz.func228.trans (congrArg some (by kernel_rfl))
 f217:=Tryz.func226.trans (congrArg some (by kernel_rfl))
 f218:=Tryz.func229.trans (congrArg some (by kernel_rfl))
 f219:=Tryz.func230.trans (congrArg some (by kernel_rfl))
 f221:=Tryz.func94.trans (congrArg some (by kernel_rfl))
 f224:=Tryz.func283.trans (congrArg some (by kernel_rfl))
 f225:=Tryz.func282.trans (congrArg some (by kernel_rfl))
 f260:=Tryz.func281.trans (congrArg some (by kernel_rfl))
 f266:=Tryz.func280.trans (congrArg some (by kernel_rfl))
 f267:=Tryz.func284.trans (congrArg some (by kernel_rfl))
 f268:=Tryz.func156.trans (congrArg some (by kernel_rfl))
 f314:=Tryz.func310.trans (congrArg some (by kernel_rfl))
 t0:=Tryz.underlying0
 a0:=Tryz.isAgg0
 z0:=Tryz.sizeOf0
 v0:=Tryz.zeroValue0
 t3:=Tryz.underlying3
 a3:=Tryz.isAgg3
 z3:=Tryz.sizeOf3
 v3:=Tryz.zeroValue3
 t4:=Tryz.underlying4
 a4:=Tryz.isAgg4
 z4:=Tryz.sizeOf4
 v4:=Tryz.zeroValue4
 t5:=Tryz.underlying5
 a5:=Tryz.isAgg5
 z5:=Tryz.sizeOf5
 v5:=Tryz.zeroValue5
 t9:=Tryz.underlying9
 a9:=Tryz.isAgg9
 z9:=Tryz.sizeOf9
 v9:=Tryz.zeroValue9
 t21:=Tryz.underlying21
 a21:=Tryz.isAgg21
 z21:=Tryz.sizeOf21
 v21:=Tryz.zeroValue21
 t31:=Tryz.underlying37
 a31:=Tryz.isAgg37
 z31:=Tryz.sizeOf37
 v31:=Tryz.zeroValue37
 t46:=Tryz.underlying154
 a46:=Tryz.isAgg154
 z46:=Tryz.sizeOf154
 v46:=Tryz.zeroValue154
 t51:=Tryz.underlying210
 a51:=Tryz.isAgg210
 z51:=Tryz.sizeOf210
 v51:=Tryz.zeroValue210
 t105:=Tryz.underlying267
 a105:=Tryz.isAgg267
 z105:=Tryz.sizeOf267
 v105:=Tryz.zeroValue267
 t119:=Tryz.underlying313
 a119:=Tryz.isAgg313
 z119:=Tryz.sizeOf313
 t138:=Tryz.underlying315
 a138:=Tryz.isAgg315
 z138:=Tryz.sizeOf315
 v138:=Tryz.zeroValue315
 t139:=Tryz.underlying316
 a139:=Tryz.isAgg316
 z139:=Tryz.sizeOf316
 v139:=Tryz.zeroValue316
 t146:=Tryz.underlying317
 a146:=Tryz.isAgg317
 z146:=Tryz.sizeOf317
 v146:=Tryz.zeroValue317
 g1:=by kernel_rfl
 g3:=by kernel_rfl
 g4:=by kernel_rfl }
def Tryz.lays154_ren:Go.Shelf.Ren:=⟨fun|154=>335|138=>157|165=>348|143=>158|166=>81|197=>228|169=>31|195=>227|218=>229|240=>138|241=>351|219=>230|260=>281|276=>213|277=>354|217=>226|225=>282|224=>283|267=>284|266=>280|314=>310|n=>n,fun|9=>9|3=>3|4=>4|72=>81|0=>0|76=>144|105=>267|21=>21|5=>5|70=>78|20=>20|37=>79|75=>143|127=>149|164=>257|46=>154|119=>313|139=>316|138=>315|146=>317|51=>210|80=>89|n=>n,fun|1=>1|3=>2|4=>3|n=>n⟩
theorem Tryz.lays154:Go.Proofs.Lays.n154 Tryz.prog Tryz.lays154_ren:={
 mixed:=by kernel_rfl
 f138:=Tryz.func157.trans (congrArg some (by kernel_rfl))
 f143:=Tryz.func158.trans (congrArg some (by kernel_rfl))
 f154:=Tryz.func335.trans (congrArg some (by kernel_rfl))
 f165:=Tryz.func348.trans (congrArg some (by kernel_rfl))
 f166:=Tryz.func81.trans (congrArg some (by kernel_rfl))
 f169:=Tryz.func31.trans (congrArg some (by kernel_rfl))
 f195:=Tryz.func227.trans (congrArg some (by kernel_rfl))
 f197:=Tryz.func228.trans (congrArg some (by kernel_rfl))
 f217:=Tryz.func226.trans (congrArg some (by kernel_rfl))
 f218:=Tryz.func229.trans (congrArg some (by kernel_rfl))
 f219:=Tryz.func230.trans (congrArg some (by kernel_rfl))
 f224:=Tryz.func283.trans (congrArg some (by kernel_rfl))
 f225:=Tryz.func282.trans (congrArg some (by kernel_rfl))
 f240:=Tryz.func138.trans (congrArg some (by kernel_rfl))
 f241:=Tryz.func351.trans (congrArg some (by kernel_rfl))
 f260:=Tryz.func281.trans (congrArg some (by kernel_rfl))
 f266:=Tryz.func280.trans (congrArg some (by kernel_rfl))
 f267:=Tryz.func284.trans (congrArg some (by kernel_rfl))
 f276:=Tryz.func213.trans (congrArg some (by kernel_rfl))
 f277:=Tryz.func354.trans (congrArg some (by kernel_rfl))
 f314:=Tryz.func310.trans (congrArg some (by kernel_rfl))
 t0:=Tryz.underlying0
 a0:=Tryz.isAgg0
 z0:=Tryz.sizeOf0
 v0:=Tryz.zeroValue0
 t3:=Tryz.underlying3
 a3:=Tryz.isAgg3
 z3:=Tryz.sizeOf3
 v3:=Tryz.zeroValue3
 t4:=Tryz.underlying4
 a4:=Tryz.isAgg4
 z4:=Tryz.sizeOf4
 v4:=Tryz.zeroValue4
 t5:=Tryz.underlying5
 a5:=Tryz.isAgg5
 z5:=Tryz.sizeOf5
 v5:=Tryz.zeroValue5
 t9:=Tryz.underlying9
 a9:=Tryz.isAgg9
 z9:=Tryz.sizeOf9
 v9:=Tryz.zeroValue9
 t20:=Tryz.underlying20
 a20:=Tryz.isAgg20
 z20:=Tryz.sizeOf20
 v20:=Tryz.zeroValue20
 t21:=Tryz.underlying21
 a21:=Tryz.isAgg21
 z21:=Tryz.sizeOf21
 v21:=Tryz.zeroValue21
 t37:=Tryz.underlying79
 a37:=Tryz.isAgg79
 z37:=Tryz.sizeOf79
 v37:=Tryz.zeroValue79
 t46:=Tryz.underlying154
 a46:=Tryz.isAgg154
 z46:=Tryz.sizeOf154
 v46:=Tryz.zeroValue154
 t51:=Tryz.underlying210
 a51:=Tryz.isAgg210
 z51:=Tryz.sizeOf210
 v51:=Tryz.zeroValue210
 t70:=Tryz.underlying78
 a70:=Tryz.isAgg78
 z70:=Tryz.sizeOf78
 v70:=Tryz.zeroValue78
 t72:=Tryz.underlying81
 a72:=Tryz.isAgg81
 z72:=Tryz.sizeOf81
 v72:=Tryz.zeroValue81
 t75:=Tryz.underlying143
 a75:=Tryz.isAgg143
 z75:=Tryz.sizeOf143
 v75:=Tryz.zeroValue143
 t76:=Tryz.underlying144
 a76:=Tryz.isAgg144
 z76:=Tryz.sizeOf144
 v76:=Tryz.zeroValue144
 t105:=Tryz.underlying267
 a105:=Tryz.isAgg267
 z105:=Tryz.sizeOf267
 v105:=Tryz.zeroValue267
 t119:=Tryz.underlying313
 a119:=Tryz.isAgg313
 z119:=Tryz.sizeOf313
 t127:=Tryz.underlying149
 a127:=Tryz.isAgg149
 z127:=Tryz.sizeOf149
 v127:=Tryz.zeroValue149
 t138:=Tryz.underlying315
 a138:=Tryz.isAgg315
 z138:=Tryz.sizeOf315
 v138:=Tryz.zeroValue315
 t139:=Tryz.underlying316
 a139:=Tryz.isAgg316
 z139:=Tryz.sizeOf316
 v139:=Tryz.zeroValue316
 t146:=Tryz.underlying317
 a146:=Tryz.isAgg317
 z146:=Tryz.sizeOf317
 v146:=Tryz.zeroValue317
 t164:=Tryz.underlying257
 a164:=Tryz.isAgg257
 z164:=Tryz.sizeOf257
 v164:=Tryz.zeroValue257
 g1:=by kernel_rfl
 g3:=by kernel_rfl
 g4:=by kernel_rfl }
theorem Tryz.Builder_Extra_154:Builder.Extra Tryz.prog Tryz.lays154_ren:={
 sizeBuilder:=by kernel_rfl
 liesBuilder:=by kernel_rfl
 t5:=Tryz.underlying5
 a5:=Tryz.isAgg5
 z5:=Tryz.sizeOf5
 v5:=Tryz.zeroValue5
 infoByte:=by kernel_rfl
 cellsByte:=by kernel_rfl
 sizeByte:=by kernel_rfl
 neB5:=by decide }
end Go.Proofs
namespace Go.Proofs.YtedpiamfpbdhoaaGreatDoor
open Go.RowKit
theorem Vz:∀(l:List UInt8) (acc:Nat),(∀b∈l,48<=b.toNat/\b.toNat<=57)->∃m:Nat,Lib.decFrom acc l=some m/\(m:Int)=l.foldl (fun n c=>10 * n+((c.toNat:Int) - 48)) (acc:Int)
 |[],acc,_=>⟨acc,rfl,rfl⟩
 |b::r,acc,h=>by
  have hb:=h b (by simp);obtain⟨m,h1,h2⟩:=Vz r (acc * 10+(b.toNat - 48)) (fun c hc=>h c (by simp[hc]));refine⟨m,?_,?_⟩
  ·rw[Lib.decFrom,Lib.digitVal,if_pos hb]
   exact h1
  ·rw[h2,List.foldl_cons]
   congr 1
   omega
theorem KC {t:ByteArray} (h:jr t=true):(∀b∈t.data.toList,48<=b.toNat/\b.toNat<=57)/\1<=t.size/\t.size<=6:=by
 unfold jr at h;simp only[Bool.and_eq_true] at h;have hs:1<=t.size/\t.size<=6:=by
  have:=h.2.1;simp[qj] at this;omega
 refine⟨fun b hb=>?_,hs⟩;obtain⟨j,hj,rfl⟩:=List.mem_iff_getElem.1 hb;have hd:=(XP _ _).1 h.1 j hj;have hd':=jE hd;unfold zz at hd';rw[List.getD_eq_getElem?_getD,List.getElem?_eq_getElem hj,Option.getD_some] at hd';omega
theorem zf0 {t:ByteArray} (h:jr t=true):Lib.atoi t.data.toList=some (Yv t.data.toList):=by
 obtain⟨hb,h1,_⟩:=KC h;have hl:t.data.toList.length=t.size:=rfl
 cases e:t.data.toList with
 |nil=>rw[e] at hl; simp at hl; omega
 |cons b r=>
  rw[e] at hb;have hb0:=hb b (by simp);obtain⟨m,q1,q2⟩:=Vz (b::r) 0 hb;have n1:(b==45)=false:=by
   rw[beq_eq_false_iff_ne]; rintro rfl; simp at hb0
  have n2:(b==43)=false:=by
   rw[beq_eq_false_iff_ne]; rintro rfl; simp at hb0
  rw[Lib.atoi,n1,n2];simp only[Bool.false_eq_true,if_false,Lib.decNat,List.isEmpty_cons,q1,Option.map_some,Yv];rw[q2]
  rfl
theorem zbX (w:World) (e:TypeId) (t:ByteArray):Below w.heap.size w (Lib.bytesWorld w e t):=
 Lib.below_freeze ((Below.refl w.heap.size w).drew.alloc (Nat.le_refl _) _) (p:=⟨w.heap.size,_,none⟩) (Nat.le_refl _) _
theorem zdh (B:Nat) (l:zB) (j n:Nat) (x:Ex) (k nu:Int) (f s:ByteArray) (va:Value) (W:World) (g:Nat) (lb:Array Value) (br bk:Nat) (eg:∀args w,(callFunc g args).run Tryz.prog w=.ok (.enter g args) w) (R:Int->World->Prop)
  (hr:zv B l j W) (hBn:B<n) (hbr:W.cell? ⟨br,0,none⟩=some (.pointer (some ⟨B,0,none⟩))) (hbk:W.cell? ⟨bk,0,none⟩=some (.func (.func g) #[] lb)) (hbkB:B<bk) (ht:xP (zm n W) W x k nu f s va)
  (hbad:sgn l j [41]=false->∀w',Moved B W w'->R 4 w')
  (hok:sgn l j [41]=true->∀w' v,Moved B W w'->zv B l (j+1) w'->yC (zm n w') w' x v->Calls Tryz.prog g (#[v]++lb) w' (zQ R)) :
  Calls Tryz.prog 311 #[.agg #[.int .i64 k,.int .i64 nu,.string f,.string s,va],.pointer (some ⟨br,0,none⟩),.pointer (some ⟨bk,0,none⟩)] W (zQ R):=by
 obtain⟨va1,va2,va3,rfl⟩:=ht.slice;have hlt:=xC hr;have hbrW:=World.block_lt_of_cell? W _ hbr;have hbkW:=World.block_lt_of_cell? W _ hbk;have hne1:br<W.heap.size:=hbrW;have hal:Below W.heap.size W (W.alloc (.cells #[.int .i64 k,.int .i64 nu,.string f,.string s,.slice va1 va2 va3] 70)):=(Below.refl _ _).alloc (Nat.le_refl _) _;have HA:Hid (Moved B W (W.alloc (.cells #[.int .i64 k,.int .i64 nu,.string f,.string s,.slice va1 va2 va3] 70))):=Moved.of_below hal (by omega);have HR:=zd (zS hr hal);have HBad:=zd hbad;have HOk:=zd hok;have HT:=zd ht;clear hbad hok ht hr hal;go_enter Tryz.func311,Tryz.ntmps311;go_wp2_with fail;refine (qh B l j ⟨#[41]⟩ _ HR.out).mono ?_;rintro e w1 ⟨rfl,q1,q2⟩;have hm1:=HA.out.trans q2;have b0:w1.cell? ⟨W.heap.size,0,none⟩=some (.int .i64 k):=(q2.cell (by omega) (by simp) 0).trans (World.cell?_alloc_at _ _ _ _ rfl);have b1:w1.cell? ⟨W.heap.size,1,none⟩=some (.int .i64 nu):=(q2.cell (by omega) (by simp) 1).trans (World.cell?_alloc_at _ _ _ _ rfl);have b2:w1.cell? ⟨W.heap.size,2,none⟩=some (.string f):=(q2.cell (by omega) (by simp) 2).trans (World.cell?_alloc_at _ _ _ _ rfl);have b3:w1.cell? ⟨W.heap.size,3,none⟩=some (.string s):=(q2.cell (by omega) (by simp) 3).trans (World.cell?_alloc_at _ _ _ _ rfl);have b4:w1.cell? ⟨W.heap.size,4,none⟩=some (.slice va1 va2 va3):=(q2.cell (by omega) (by simp) 4).trans (World.cell?_alloc_at _ _ _ _ rfl);have hk1:w1.cell? ⟨bk,0,none⟩=some (.func (.func g) #[] lb):=(hm1.cell hbkB hbkW 0).trans hbk
 cases hs:sgn l j [41]
 ·have hs':sgn l j (ByteArray.mk #[41]).data.toList=false:=hs
  have HB:=zd (HBad.out hs w1 hm1)
  try rw[hs']
  clear q1 q2 hm1 HOk HBad;go_wp2_with fail;go_ret;exact⟨_,rfl,HB.out⟩
 ·have hs':sgn l j (ByteArray.mk #[41]).data.toList=true:=hs
  rw[hs'] at q1;have HK:=zd (HOk.out hs w1 _ hm1 q1 ⟨_,_,_,_,_,rfl,HT.out.keep (xH hBn hm1)⟩)
  try rw[hs']
  clear q1 q2 hm1 HOk HBad HT;go_wp2_with fail;refine HK.out.mono ?_;rintro e w' ⟨y,rfl,hy⟩;have HY:=zd hy;clear hy;go_wp2_with fail;go_ret;exact⟨_,rfl,HY.out⟩
theorem zdi (g:Nat) (lb:Array Value) (eg:∀args w,(callFunc g args).run Tryz.prog w=.ok (.enter g args) w) (R:Int->World->Prop) (bk:Nat) (va1:Option Addr) (va2 va3:Nat) (W:World)
  (hk:W.cell? ⟨bk,0,none⟩=some (.func (.func g) #[] lb)) (h:Calls Tryz.prog g (#[.agg #[.int .i64 6,.int .i64 0,.string ⟨#[]⟩,.string ⟨#[]⟩,.slice va1 va2 va3]]++lb) W (zQ R)) :
  Calls Tryz.prog 313 #[.slice va1 va2 va3,.pointer (some ⟨bk,0,none⟩)] W (zQ R):=by
 have HK:=zd h;clear h;go_enter Tryz.func313,Tryz.ntmps313;go_wp2_with fail;refine HK.out.mono ?_;rintro e w' ⟨y,rfl,hy⟩;have HY:=zd hy;clear hy;go_wp2_with fail;go_ret;exact⟨_,rfl,HY.out⟩
theorem zep (f d:Nat) (hd1:d<100) (hE:jd f (d+1)) (hA:YE f d) (hC:KA f d):Kz f d:=by
 intro B l i w g lb eg R hr hbad hok;have hlt:=xC hr;have hal:Below w.heap.size w ((w.alloc (.cells #[.pointer (some ⟨B,0,none⟩)] 160)).alloc (.cells #[.func (.func g) #[] lb] 227)):=((Below.refl _ _).alloc (Nat.le_refl _) _).alloc (by simp) _;have HM0:Hid (Moved B w ((w.alloc (.cells #[.pointer (some ⟨B,0,none⟩)] 160)).alloc (.cells #[.func (.func g) #[] lb] 227))):=Moved.of_below hal (by omega);have HR0:=zd (zS hr hal);have HNum:Hid (∀j t,vS l j 2=some t->jr t=true):=fun j t ht=>zhV hr ht
 have hcr:((w.alloc (.cells #[.pointer (some ⟨B,0,none⟩)] 160)).alloc (.cells #[.func (.func g) #[] lb] 227)).cell? ⟨w.heap.size,0,none⟩=some (.pointer (some ⟨B,0,none⟩)):=(World.cell?_alloc_old _ _ _ (by simp)).trans (World.cell?_alloc_at _ _ _ _ rfl);have hck:((w.alloc (.cells #[.pointer (some ⟨B,0,none⟩)] 160)).alloc (.cells #[.func (.func g) #[] lb] 227)).cell? ⟨w.heap.size+1,0,none⟩=some (.func (.func g) #[] lb):=World.cell?_alloc_at _ _ _ _ (by simp);have HKeep:=zd (show ∀W,Moved B ((w.alloc (.cells #[.pointer (some ⟨B,0,none⟩)] 160)).alloc (.cells #[.func (.func g) #[] lb] 227)) W->W.cell? ⟨w.heap.size,0,none⟩=some (.pointer (some ⟨B,0,none⟩))/\W.cell? ⟨w.heap.size+1,0,none⟩=some (.func (.func g) #[] lb) from fun W h2=>
  ⟨(h2.cell (by omega) (by simp; omega) 0).trans hcr,(h2.cell (by omega) (by simp) 0).trans hck⟩)
 have HBad:=zd hbad;have HOk:=zd hok;have HEg:=zd eg;have HE:=zd hE;have HA:=zd hA;have HC:=zd hC;have hef:=z8;have HP:Hid (Qy (pEx l f) l i=if sgn l i [40]=true then (match pEx l f (i+1) with
   |.bad e=>.bad e
   |.ok x j=>if sgn l j [41]=true then .ok x (j+1) else .bad 4)
  else if sgn l i [91]=true then (match qZ (pEx l f) l [93] (l.length+1) [] (i+1) with
   |.bad e=>.bad e
   |.ok xs j=>.ok (J1 xs) j)
  else match vS l i 2 with
   |some t=>.ok (zg7 t) (i+1)
   |none=>match vS l i 3 with
    |some t=>.ok (zcC t) (i+1)
    |none=>ZZ (pEx l f) l i):=by show _=_; unfold Qy; rfl
 clear hbad hok hr hal eg hE hA hC hcr hck;go_enter Tryz.func290,Tryz.ntmps290;go_wp2_with fail;refine (qh B l i ⟨#[40]⟩ _ HR0.out).mono ?_;rintro e w1 ⟨rfl,q1,q2⟩;have HN1:=zd q2;have HM1:=zd (HM0.out.trans q2);have hsz1:w.heap.size+2<=w1.heap.size:=by have:=q2.below.size; simpa using this
 obtain⟨k1,k2⟩:=HKeep.out w1 q2
 cases hs1:sgn l i [40]
 case true=>
  have hs':sgn l i (ByteArray.mk #[40]).data.toList=true:=hs1;rw[hs'] at q1;rw[if_pos hs1] at HP;have en:((d+1:Nat):Int)=(d:Int)+1:=by omega
  have cI:=HE.out B l (i+1) w1 311 #[.pointer (some ⟨w.heap.size,0,none⟩),.pointer (some ⟨w.heap.size+1,0,none⟩)] (enters_of Tryz.func311 (by kernel_rfl) rfl) R q1
   (fun e he w' hm=>HBad.out e (by rw[HP.out,he]) w' (HM1.out.trans hm))
   (fun x j hx w' v hm hr' hv=>by
    obtain⟨u1,u2⟩:=HKeep.out w' (HN1.out.trans hm);obtain⟨ke,ne,fe,se,ve,rfl,hce⟩:=ZM (n:=w.heap.size) (by omega) hv;exact zdh B l j w.heap.size x ke ne fe se ve w' g lb _ _ HEg.out R hr' hlt u1 u2 (by omega) hce
     (fun h4 w'' hm'=>HBad.out 4 (by rw[HP.out,hx]; simp[h4]) w'' ((HM1.out.trans hm).trans hm'))
     (fun h4 w'' v' hm' hr'' hv'=>HOk.out x (j+1) (by rw[HP.out,hx]; simp[h4]) w'' v' ((HM1.out.trans hm).trans hm') hr'' hv'))
  rw[en] at cI;have HK:=zd cI
  try rw[hs']
  clear q1 q2 cI HBad HOk;go_wp2_with fail;refine HK.out.mono ?_;rintro e w' ⟨y,rfl,hy⟩;have HY:=zd hy;clear hy;go_wp2_with fail;go_ret;exact⟨_,rfl,HY.out⟩
 have hs1':sgn l i (ByteArray.mk #[40]).data.toList=false:=hs1;rw[hs1'] at q1;rw[if_neg (by rw[hs1]; simp)] at HP;have HR1:Hid (zv B l i w1):=q1
 try rw[hs1']
 clear q1 q2;go_wp2_with fail;refine (qh B l i ⟨#[91]⟩ _ HR1.out).mono ?_;rintro e w2 ⟨rfl,q1,q2⟩;have HN2:=zd (HN1.out.trans q2);have HM2:=zd (HM1.out.trans q2);have hsz2:w.heap.size+2<=w2.heap.size:=by have:=q2.below.size; omega
 obtain⟨k3,k4⟩:=HKeep.out w2 HN2.out;clear k1 k2
 cases hs2:sgn l i [91]
 case true=>
  have hs':sgn l i (ByteArray.mk #[91]).data.toList=true:=hs2;rw[hs'] at q1;rw[if_pos hs2] at HP;have HK:=zd (HA.out B l (i+1) ⟨#[93]⟩ w2 313 #[.pointer (some ⟨w.heap.size+1,0,none⟩)] (enters_of Tryz.func313 (by kernel_rfl) rfl) R q1
   (fun e he w' hm=>HBad.out e (by rw[HP.out]; rw[show qZ (pEx l f) l [93] (l.length+1) [] (i+1)=.bad e from he]) w' (HM2.out.trans hm))
   (fun xs j hx w' v hm hr' hv=>by
    obtain⟨va1,va2,va3,rfl⟩:=hv.slice;obtain⟨u1,u2⟩:=HKeep.out w' (HN2.out.trans hm);refine zdi g lb HEg.out R _ va1 va2 va3 w' u2 ?_;exact HOk.out (J1 xs) j (by rw[HP.out]; rw[show qZ (pEx l f) l [93] (l.length+1) [] (i+1)=.ok xs j from hx]) w' _ (HM2.out.trans hm) hr' ⟨_,_,_,_,_,rfl,xs,rfl,yi,yi,jA ⟨fun _ _=>rfl,fun _ hb=>⟨by have:=hb.1; omega,hb.2⟩⟩ hv⟩))
  try rw[hs']
  clear q1 q2 HBad HOk;go_wp2_with fail;refine HK.out.mono ?_;rintro e w' ⟨y,rfl,hy⟩;have HY:=zd hy;clear hy;go_wp2_with fail;go_ret;exact⟨_,rfl,HY.out⟩
 have hs2':sgn l i (ByteArray.mk #[91]).data.toList=false:=hs2;rw[hs2'] at q1;rw[if_neg (by rw[hs2]; simp)] at HP;have HR2:Hid (zv B l i w2):=q1
 try rw[hs2']
 clear q1 q2;go_wp2_with fail;refine (VT B l i 2 _ HR2.out).mono ?_;rintro e w3 ⟨hm,⟨ht,rfl,hr⟩|⟨t,ht,hsz,rfl,hr⟩⟩
 rotate_left
 ·rw[ht] at HP
  have hnum:=HNum.out i t ht;obtain⟨_,hn1,hn6⟩:=KC hnum;have HAt:=zd (zf0 hnum);have HN3:=zd (HN2.out.trans hm);have HM3:=zd (HM2.out.trans hm);have HR3:=zd hr;have hlt3:=xC hr;clear hm hr ht hnum;go_wp2_with fail;refine (Tryz.strconv_Atoi t (Yv t.data.toList) (by omega) HAt.out _).mono ?_;rintro e w4 ⟨rfl,t',rfl⟩;have hb4:=zbX w3 5 t';have hm4:Moved B w3 (Lib.bytesWorld w3 5 t'):=Moved.of_below hb4 (by omega);obtain⟨u1,u2⟩:=HKeep.out _ (HN3.out.trans hm4);have HK:=zd (HOk.out _ _ HP.out (Lib.bytesWorld w3 5 t') (.agg #[.int .i64 1,.int .i64 (Yv t.data.toList),.string ⟨#[]⟩,.string ⟨#[]⟩,.slice none 0 0]) (HM3.out.trans hm4) (zS HR3.out hb4) ⟨_,_,_,_,_,rfl,[],rfl,yi,yi,yo⟩);have eg:=HEg.out;clear hm4 hb4 HBad HOk;generalize Lib.bytesWorld w3 5 t'=w4 at *;go_wp2_with fail;refine HK.out.mono ?_;rintro e w' ⟨y,rfl,hy⟩;have HY:=zd hy;clear hy;go_wp2_with fail;go_ret;exact⟨_,rfl,HY.out⟩
 rw[ht] at HP;have HN3:=zd (HN2.out.trans hm);have HM3:=zd (HM2.out.trans hm);have HR3:=zd hr;obtain⟨k5,k6⟩:=HKeep.out w3 HN3.out;clear hm hr ht k3 k4;go_wp2_with fail;refine (VT B l i 3 _ HR3.out).mono ?_;rintro e w4 ⟨hm,⟨ht,rfl,hr⟩|⟨t,ht,hsz,rfl,hr⟩⟩
 rotate_left
 ·rw[ht] at HP
  have HM4:=zd (HM3.out.trans hm);obtain⟨u1,u2⟩:=HKeep.out w4 (HN3.out.trans hm);have HK:=zd (HOk.out _ _ HP.out w4 (.agg #[.int .i64 2,.int .i64 0,.string ⟨#[]⟩,.string t,.slice none 0 0]) HM4.out hr ⟨_,_,_,_,_,rfl,[],rfl,yi,hsz,yo⟩);have eg:=HEg.out;clear hm hr ht HBad HOk;go_wp2_with fail;refine HK.out.mono ?_;rintro e w' ⟨y,rfl,hy⟩;have HY:=zd hy;clear hy;go_wp2_with fail;go_ret;exact⟨_,rfl,HY.out⟩
 rw[ht] at HP;have HM4:=zd (HM3.out.trans hm);obtain⟨u1,u2⟩:=HKeep.out w4 (HN3.out.trans hm);have hsz4:w.heap.size<=w4.heap.size:=HM4.out.below.size;have HK:=zd (HC.out B l i w4 g lb HEg.out R hr (fun e he w' hm'=>HBad.out e (HP.out.trans he) w' (HM4.out.trans hm')) (fun x j hx w' v hm' hr' hv=>HOk.out x j (HP.out.trans hx) w' v (HM4.out.trans hm') hr' (ZM hsz4 hv)));clear hm hr ht HBad HOk k5 k6;go_wp2_with fail;refine HK.out.mono ?_;rintro e w' ⟨y,rfl,hy⟩;have HY:=zd hy;clear hy;go_wp2_with fail;go_ret;exact⟨_,rfl,HY.out⟩
end Go.Proofs.YtedpiamfpbdhoaaGreatDoor
