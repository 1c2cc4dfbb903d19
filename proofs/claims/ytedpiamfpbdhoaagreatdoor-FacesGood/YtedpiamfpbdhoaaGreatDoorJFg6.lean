import Derived.Test.YtedpiamfpbdhoaaGreatDoorJFg3
import Derived.Test.YtedpiamfpbdhoaaGreatDoorJFg5
import Derived.Lib.IndexAny
set_option maxHeartbeats 40000000
set_option maxRecDepth 100000
namespace Go.Proofs.YtedpiamfpbdhoaaGreatDoor
open Go.RowKit
theorem zaL {B:Nat} {l:zB} {i:Nat} {w:World} (h:zv B l i w):i<=l.length:=by obtain⟨_,_,_,h⟩:=h; exact h
theorem Jq {B:Nat} {l:zB} {i:Nat} {w:World} (h:zv B l i w):l.length<=200:=by obtain⟨_,_,⟨⟨h,_⟩,_⟩,_⟩:=h; exact h
theorem ListOf.wider {α:Type} {C:(Nat->Prop)->World->α->List Value->Prop} {T Tl:TypeId} {base bl n1 n2:Nat} {xs:List α} {la:Option Addr} {cap:Nat} {ys:List Value} {W:World} (h:ListOf C T Tl base bl n1 xs la cap ys W) (hn:n1<=n2):ListOf C T Tl base bl n2 xs la cap ys W:=
 ⟨h.box,h.own,fun g hg=>Nat.lt_of_lt_of_le (h.old g hg) hn,h.items⟩
theorem Qg {B base bl n1:Nat} {xs:List Ex} {la:Option Addr} {cap:Nat} {ys:List Value} {W W':World} (h:ListOf ExC 70 68 base bl n1 xs la cap ys W) (hm:Moved B W W') (hB:B<bl) (hbl:bl<base):ListOf ExC 70 68 base bl n1 xs la cap ys W':=
 ListOf.moved (C:=ExC) (fun hk h=>vT hk h) h hm hB hbl
theorem VV {base bl n1:Nat} {xs:List Ex} {x:Ex} {la:Option Addr} {cap g cap':Nat} {ys:List Value} {W W':World} {k n:Int} {f s:ByteArray} {va1:Option Addr} {va2 va3:Nat} (h:ListOf ExC 70 68 base bl n1 xs la cap ys W) (hbl:bl<base) (hn1:base<=n1) (hcs:xP (zm n1 W) W x k n f s (.slice va1 va2 va3))
  (hg:Grew base bl 70 68 (.slice la xs.length cap) (.slice (some ⟨g,0,none⟩) (xs.length+1) cap') (xs.length+1) (ys++[.int .i64 k,.int .i64 n,.string f,.string s,.slice va1 va2 va3]) W W') :
  ListOf ExC 70 68 base bl W'.heap.size (xs++[x]) (some ⟨g,0,none⟩) cap' (ys++[.int .i64 k,.int .i64 n,.string f,.string s,.slice va1 va2 va3]) W':=
 ListOf.push (C:=ExC) (fun hk h=>vT hk h) h hbl hn1 rfl ⟨_,_,_,_,_,_,_,rfl,hcs⟩ hg
theorem zeq {base bl n1 n0:Nat} {xs:List Ex} {la:Option Addr} {cap:Nat} {ys:List Value} {W:World} (h:ListOf ExC 70 68 base bl n1 xs la cap ys W) (hn0:n0<=base) (hmax:xs.length<=maxLen):ze (zm n0 W) (yB (zm n0 W) W) 5 xs (.slice la xs.length cap):=
 ListOf.toSl (C:=ExC) (P:=yB) (fun hk h=>vT hk h) (fun h1 h2 h3=>zek h1 h2 h3) h hn0 hmax
theorem zhf (f:Nat) (B:Nat) (l:zB) (fin:ByteArray) (w0 Wb:World) (base bl br bo bn be bk g1 g:Nat) (lb1 lb:Array Value) (e1:∀args w,(callFunc g1 args).run Tryz.prog w=.ok (.enter g1 args) w) (eg:∀args w,(callFunc g args).run Tryz.prog w=.ok (.enter g args) w) (R:Int->World->Prop)
  (hw0:Moved B w0 Wb) (hBl:B<bl) (h0l:w0.heap.size<=bl) (hbl:bl<base)
  (xr:LBox B bl base br (.pointer (some ⟨B,0,none⟩)) Wb) (xo:LBox B bl base bo (.func (.func g1) #[] lb1) Wb)
  (xn:LBox B bl base bn (.func (.func 339) #[] #[.pointer (some ⟨bl,0,none⟩),.pointer (some ⟨br,0,none⟩),.pointer (some ⟨bo,0,none⟩),.pointer (some ⟨bn,0,none⟩),.pointer (some ⟨be,0,none⟩),.pointer (some ⟨bk,0,none⟩)]) Wb)
  (xe:LBox B bl base be (.string fin) Wb) (xk:LBox B bl base bk (.func (.func g) #[] lb) Wb)
  (hOne:∀(i:Nat) (W:World),zv B l i W->Kept B bl base Wb W->∀(g':Nat) (lb':Array Value),(∀args w,(callFunc g' args).run Tryz.prog w=.ok (.enter g' args) w)->
   (∀e,pEx l f i=.bad e->∀w',Moved B W w'->R e w')->
   (∀x j,pEx l f i=.ok x j->∀w' v,Moved B W w'->zv B l j w'->yC (zm W.heap.size w') w' x v->Calls Tryz.prog g' (#[v]++lb') w' (zQ R))->
   Calls Tryz.prog g1 (#[.func (.func g') #[] lb']++lb1) W (zQ R)) :
  ∀(N i:Nat) (x:Ex) (v:Value) (n1:Nat) (xs:List Ex) (la:Option Addr) (lcap:Nat) (ys:List Value) (W:World),l.length<=i+N->xs.length<=i->zv B l i W->Kept B bl base Wb W->base<=n1->n1<=W.heap.size->
   ListOf ExC 70 68 base bl n1 xs la lcap ys W->yC (zm n1 W) W x v->
   (∀e,yR (pEx l f) l fin.data.toList N xs x i=.bad e->∀w',Moved B w0 w'->R e w')->
   (∀zs j,yR (pEx l f) l fin.data.toList N xs x i=.ok zs j->∀w' v',Moved B w0 w'->zv B l j w'->ze (zm w0.heap.size w') (yB (zm w0.heap.size w') w') 5 zs v'->Calls Tryz.prog g (#[v']++lb) w' (zQ R))->
   Calls Tryz.prog 339 #[v,.pointer (some ⟨bl,0,none⟩),.pointer (some ⟨br,0,none⟩),.pointer (some ⟨bo,0,none⟩),.pointer (some ⟨bn,0,none⟩),.pointer (some ⟨be,0,none⟩),.pointer (some ⟨bk,0,none⟩)] W (zQ R):=by
 intro N
 induction N with
 |zero=>
  intro i x v n1 xs la lcap ys W hN hxi hr hk hn1 hn1W hL hx hbad hok;obtain⟨k,nu,fo,s,va,rfl,hcs⟩:=hx;obtain⟨va1,va2,va3,rfl⟩:=hcs.slice;have hil:=zaL hr;have h200:=Jq hr;have hm63:(xs.length+1:Nat)<=maxLen:=by unfold maxLen; omega
  refine Ky bl br bo bn be bk base la lcap xs.length ys k nu fo s va1 va2 va3 W B l i fin g1 g lb1 lb e1 eg R Wb _ hL.box hL.own hk.room hbl hm63 (by omega) hBl hr hk xr xo xn xe xk ?_ ?_ ?_
  ·intro hc
   have:=YD hc;omega
  ·intro hc hf g' cap' w w' hG hm hr'
   have hk':=(hk.grew hG hL.own hBl hbl).moved hm;have hL':=Qg (VV hL hbl hn1 hcs hG) hm hBl hbl;have hS:=zeq (n0:=w0.heap.size) hL' (by omega) (by simp; omega);have hlen:(xs++[x]).length=xs.length+1:=by simp
   rw[hlen] at hS;exact hok (xs++[x]) (i+1) (by unfold yR; rw[if_neg (by rw[hc]; simp),if_pos hf]) w' _ (hk'.toMoved hw0 h0l hbl) hr' hS
  ·intro hc hf g' cap' w w' hG hm
   exact hbad 4 (by unfold yR; rw[if_neg (by rw[hc]; simp),if_neg (by rw[hf]; simp)]) w' (((hk.grew hG hL.own hBl hbl).moved hm).toMoved hw0 h0l hbl)
 |succ N ih=>
  intro i x v n1 xs la lcap ys W hN hxi hr hk hn1 hn1W hL hx hbad hok;obtain⟨k,nu,fo,s,va,rfl,hcs⟩:=hx;obtain⟨va1,va2,va3,rfl⟩:=hcs.slice;have hil:=zaL hr;have h200:=Jq hr;have hm63:(xs.length+1:Nat)<=maxLen:=by unfold maxLen; omega
  refine Ky bl br bo bn be bk base la lcap xs.length ys k nu fo s va1 va2 va3 W B l i fin g1 g lb1 lb e1 eg R Wb _ hL.box hL.own hk.room hbl hm63 (by omega) hBl hr hk xr xo xn xe xk ?_ ?_ ?_
  ·intro hc g' cap' w w' hG hm hr'
   have hk':=(hk.grew hG hL.own hBl hbl).moved hm;have hL':=Qg (VV hL hbl hn1 hcs hG) hm hBl hbl;have hP:yR (pEx l f) l fin.data.toList (N+1) xs x i=qZ (pEx l f) l fin.data.toList (N+1) (xs++[x]) (i+1):=if_pos hc;refine hOne (i+1) w' hr' hk' 339 _ (enters_of Tryz.func339 (by kernel_rfl) rfl) ?_ ?_
   ·intro e he w'' hm''
    exact hbad e (by rw[hP,Xb he]) w'' ((hk'.moved hm'').toMoved hw0 h0l hbl)
   ·intro y j hy w'' v hm'' hr'' hv
    have hadv:=XC f _ _ _ hy;exact ih j y v w'.heap.size (xs++[x]) _ _ _ w'' (by omega) (by simp; omega) hr'' (hk'.moved hm'') hk'.room hm''.below.size (Qg (hL'.wider hm.below.size) hm'' hBl hbl) hv
     (fun e he w3 hm3=>hbad e (by rw[hP,j5 hy]; exact he) w3 hm3)
     (fun zs j' hz w3 v3 hm3 hr3 hv3=>hok zs j' (by rw[hP,j5 hy]; exact hz) w3 v3 hm3 hr3 hv3)
  ·intro hc hf g' cap' w w' hG hm hr'
   have hk':=(hk.grew hG hL.own hBl hbl).moved hm;have hL':=Qg (VV hL hbl hn1 hcs hG) hm hBl hbl;have hS:=zeq (n0:=w0.heap.size) hL' (by omega) (by simp; omega);have hlen:(xs++[x]).length=xs.length+1:=by simp
   rw[hlen] at hS;exact hok (xs++[x]) (i+1) (by unfold yR; rw[if_neg (by rw[hc]; simp),if_pos hf]) w' _ (hk'.toMoved hw0 h0l hbl) hr' hS
  ·intro hc hf g' cap' w w' hG hm
   exact hbad 4 (by unfold yR; rw[if_neg (by rw[hc]; simp),if_neg (by rw[hf]; simp)]) w' (((hk.grew hG hL.own hBl hbl).moved hm).toMoved hw0 h0l hbl)
theorem zaX (f d:Nat) (hd:d<100) (hE:jd f (d+1)) (B:Nat) (l:zB) (i:Nat) (W:World) (br bd:Nat) (g:Nat) (lb:Array Value) (eg:∀args w,(callFunc g args).run Tryz.prog w=.ok (.enter g args) w) (R:Int->World->Prop) (hr:zv B l i W)
  (cr:W.cell? ⟨br,0,none⟩=some (.pointer (some ⟨B,0,none⟩))) (cd:W.cell? ⟨bd,0,none⟩=some (.int .i64 d))
  (hbad:∀e,pEx l f i=.bad e->∀w',Moved B W w'->R e w')
  (hok:∀x j,pEx l f i=.ok x j->∀w' v,Moved B W w'->zv B l j w'->yC (zm W.heap.size w') w' x v->Calls Tryz.prog g (#[v]++lb) w' (zQ R)) :
  Calls Tryz.prog 329 #[.func (.func g) #[] lb,.pointer (some ⟨br,0,none⟩),.pointer (some ⟨bd,0,none⟩)] W (zQ R):=by
 have HE:=zd (hE B l i W g lb eg R hr hbad hok);have en:((d+1:Nat):Int)=(d:Int)+1:=by omega
 rw[en] at HE;have hd':(d:Int)<100:=by omega
 clear hbad hok hr eg hE en hd;go_enter Tryz.func329,Tryz.ntmps329;go_wp2_with fail;refine HE.out.mono ?_;rintro e w' ⟨y,rfl,hy⟩;have HY:=zd hy;clear hy;go_wp2_with fail;go_ret;exact⟨_,rfl,HY.out⟩
theorem zcH (w:World) (o0 o1 o2 o3 o4 o5:Obj):∃W,((((((w.alloc o0).alloc o1).alloc o2).alloc o3).alloc o4).alloc o5)=W/\W.heap.size=w.heap.size+6/\W.heap[w.heap.size]? = some o0/\W.heap[w.heap.size+1]? = some o1/\W.heap[w.heap.size+2]? = some o2/\
  W.heap[w.heap.size+3]? = some o3/\W.heap[w.heap.size+4]? = some o4/\W.heap[w.heap.size+5]? = some o5/\Below w.heap.size w W:=by
 have n0:(w.alloc o0).heap.size=w.heap.size+1:=by simp
 have n1:((w.alloc o0).alloc o1).heap.size=w.heap.size+2:=by simp
 have n2:(((w.alloc o0).alloc o1).alloc o2).heap.size=w.heap.size+3:=by simp
 have n3:((((w.alloc o0).alloc o1).alloc o2).alloc o3).heap.size=w.heap.size+4:=by simp
 have n4:(((((w.alloc o0).alloc o1).alloc o2).alloc o3).alloc o4).heap.size=w.heap.size+5:=by simp
 have a0:=heap_alloc_new w o0;have a1:=heap_alloc_new (w.alloc o0) o1;have a2:=heap_alloc_new ((w.alloc o0).alloc o1) o2;have a3:=heap_alloc_new (((w.alloc o0).alloc o1).alloc o2) o3;have a4:=heap_alloc_new ((((w.alloc o0).alloc o1).alloc o2).alloc o3) o4;have a5:=heap_alloc_new (((((w.alloc o0).alloc o1).alloc o2).alloc o3).alloc o4) o5;rw[n0] at a1;rw[n1] at a2;rw[n2] at a3;rw[n3] at a4;rw[n4] at a5;refine⟨_,rfl,by simp,?_,?_,?_,?_,?_,a5,?_⟩
 ·rw[heap_alloc_old _ _ (by omega),heap_alloc_old _ _ (by omega),heap_alloc_old _ _ (by omega),heap_alloc_old _ _ (by omega),heap_alloc_old _ _ (by omega)]; exact a0
 ·rw[heap_alloc_old _ _ (by omega),heap_alloc_old _ _ (by omega),heap_alloc_old _ _ (by omega),heap_alloc_old _ _ (by omega)]; exact a1
 ·rw[heap_alloc_old _ _ (by omega),heap_alloc_old _ _ (by omega),heap_alloc_old _ _ (by omega)]; exact a2
 ·rw[heap_alloc_old _ _ (by omega),heap_alloc_old _ _ (by omega)]; exact a3
 ·rw[heap_alloc_old _ _ (by omega)]; exact a4
 ·exact ((((((Below.refl _ _).alloc (Nat.le_refl _) _).alloc (by omega) _).alloc (by omega) _).alloc (by omega) _).alloc (by omega) _).alloc (by omega) _
theorem jo {W:World} {c:Nat} {v:Value} {T:TypeId} (h:W.heap[c]? = some (.cells #[v] T (0,0))):W.cell? ⟨c,0,none⟩=some v:=by rw[cell_of_row W c 0 _ _ _ h]; rfl
theorem zbY (f d:Nat) (hd:d<100) (hE:jd f (d+1)) (B:Nat) (l:zB) (i:Nat) (fin:ByteArray) (w:World) (br bd:Nat) (g:Nat) (lb:Array Value) (eg:∀args w,(callFunc g args).run Tryz.prog w=.ok (.enter g args) w) (R:Int->World->Prop) (hr:zv B l i w)
  (cr:w.cell? ⟨br,0,none⟩=some (.pointer (some ⟨B,0,none⟩))) (cd:w.cell? ⟨bd,0,none⟩=some (.int .i64 d)) (hbr:B<br) (hbd:B<bd)
  (hbad:∀e,qZ (pEx l f) l fin.data.toList (l.length+1) [] i=.bad e->∀w',Moved B w w'->R e w')
  (hok:∀xs j,qZ (pEx l f) l fin.data.toList (l.length+1) [] i=.ok xs j->∀w' v,Moved B w w'->zv B l j w'->ze (zm w.heap.size w') (yB (zm w.heap.size w') w') 5 xs v->Calls Tryz.prog g (#[v]++lb) w' (zQ R)) :
  Calls Tryz.prog 330 #[.pointer (some ⟨B,0,none⟩),.string fin,.func (.func 329) #[] #[.pointer (some ⟨br,0,none⟩),.pointer (some ⟨bd,0,none⟩)],.func (.func g) #[] lb] w (zQ R):=by
 have hlt:=xC hr;have hbrw:br<w.heap.size:=World.block_lt_of_cell? w _ cr;have hbdw:bd<w.heap.size:=World.block_lt_of_cell? w _ cd;obtain⟨Wb,hWb,hsz,p0,p1,p2,p3,p4,p5,hbel⟩:=zcH w (.cells #[.pointer (some ⟨B,0,none⟩)] 160) (.cells #[.string fin] 9) (.cells #[.func (.func 329) #[] #[.pointer (some ⟨br,0,none⟩),.pointer (some ⟨bd,0,none⟩)]] 331) (.cells #[.func (.func g) #[] lb] 320) (.cells #[.slice none 0 0] 68)
  (.cells #[.func (.func 339) #[] #[.pointer (some ⟨w.heap.size+4,0,none⟩),.pointer (some ⟨w.heap.size,0,none⟩),.pointer (some ⟨w.heap.size+2,0,none⟩),.pointer (some ⟨w.heap.size+5,0,none⟩),.pointer (some ⟨w.heap.size+1,0,none⟩),.pointer (some ⟨w.heap.size+3,0,none⟩)]] 227)
 have hm:Moved B w Wb:=Moved.of_below hbel (by omega);have hr0:=zS hr hbel;have cr0:Wb.cell? ⟨br,0,none⟩=some (.pointer (some ⟨B,0,none⟩)):=(hbel.cell (p:=⟨br,0,none⟩) hbrw).trans cr;have cd0:Wb.cell? ⟨bd,0,none⟩=some (.int .i64 d):=(hbel.cell (p:=⟨bd,0,none⟩) hbdw).trans cd;have xbr:LBox B (w.heap.size+4) (w.heap.size+6) br (.pointer (some ⟨B,0,none⟩)) Wb:=⟨cr0,hbr,by omega,by omega⟩
 have xbd:LBox B (w.heap.size+4) (w.heap.size+6) bd (.int .i64 d) Wb:=⟨cd0,hbd,by omega,by omega⟩
 have hK0:Kept B (w.heap.size+4) (w.heap.size+6) Wb Wb:=⟨Below.refl _ _,fun _ _ _ _=>rfl,by omega⟩
 have hL0:ListOf ExC 70 68 (w.heap.size+6) (w.heap.size+4) (w.heap.size+6) [] none 0 [] Wb:=⟨p4,⟨rfl,Or.inl ⟨rfl,rfl⟩⟩,fun g' h=>(by cases h),fun j hj=>absurd hj (by simp)⟩
 have cI:=zaX f d hd hE B l i Wb br bd 339 #[.pointer (some ⟨w.heap.size+4,0,none⟩),.pointer (some ⟨w.heap.size,0,none⟩),.pointer (some ⟨w.heap.size+2,0,none⟩),.pointer (some ⟨w.heap.size+5,0,none⟩),.pointer (some ⟨w.heap.size+1,0,none⟩),.pointer (some ⟨w.heap.size+3,0,none⟩)] (enters_of Tryz.func339 (by kernel_rfl) rfl) R hr0 cr0 cd0
  (fun e he w' hm'=>hbad e (Xb he) w' (hm.trans hm'))
  (fun x j hx w' v hm' hr' hv=>by
   refine zhf f B l fin w Wb (w.heap.size+6) (w.heap.size+4) w.heap.size (w.heap.size+2) (w.heap.size+5) (w.heap.size+1) (w.heap.size+3) 329 g #[.pointer (some ⟨br,0,none⟩),.pointer (some ⟨bd,0,none⟩)] lb (enters_of Tryz.func329 (by kernel_rfl) rfl) eg R hm (by omega) (by omega) (by omega)
    ⟨jo p0,by omega,by omega,by omega⟩ ⟨jo p2,by omega,by omega,by omega⟩ ⟨jo p5,by omega,by omega,by omega⟩ ⟨jo p1,by omega,by omega,by omega⟩ ⟨jo p3,by omega,by omega,by omega⟩
    (fun i' W hr1 hk1 g' lb' eg' hbad' hok'=>zaX f d hd hE B l i' W br bd g' lb' eg' R hr1 (xbr.later hk1) (xbd.later hk1) hbad' hok')
    l.length j x v (w.heap.size+6) [] none 0 [] w' (by omega) (by simp) hr' (hK0.moved hm') (Nat.le_refl _) (by have:=hm'.below.size; omega) (Qg hL0 hm' (by omega) (by omega)) (by rw[hsz] at hv; exact hv) ?_ ?_
   ·intro e he w'' hm''
    exact hbad e (by rw[j5 hx]; exact he) w'' hm''
   ·intro zs j' hz w'' v' hm'' hr'' hv'
    exact hok zs j' (by rw[j5 hx]; exact hz) w'' v' hm'' hr'' hv')
 rw[<- hWb] at cI;have HCI:=zd cI;have hef:=z8;have e1:=enters_of (P:=Tryz.prog) Tryz.func329 (by kernel_rfl) rfl;clear cI hbad hok hr hWb hsz p0 p1 p2 p3 p4 p5 hbel hm hr0 cr0 cd0 xbr xbd hK0 hL0 cr cd hE eg hbrw hbdw;go_enter Tryz.func330,Tryz.ntmps330;go_wp2_with fail;refine HCI.out.mono ?_;rintro e w' ⟨y,rfl,hy⟩;have HY:=zd hy;clear hy;go_wp2_with fail;go_ret;exact⟨_,rfl,HY.out⟩
theorem KD (f d:Nat) (hd:d<100) (hE:jd f (d+1)):YE f d:=by
 intro B l i fin w g lb eg R hr hbad hok;have hlt:=xC hr;have hal:Below w.heap.size w ((w.alloc (.cells #[.pointer (some ⟨B,0,none⟩)] 160)).alloc (.cells #[.int .i64 d] 3)):=((Below.refl _ _).alloc (Nat.le_refl _) _).alloc (by simp) _;have hm:Moved B w ((w.alloc (.cells #[.pointer (some ⟨B,0,none⟩)] 160)).alloc (.cells #[.int .i64 d] 3)):=Moved.of_below hal (by omega);have hsz:((w.alloc (.cells #[.pointer (some ⟨B,0,none⟩)] 160)).alloc (.cells #[.int .i64 d] 3)).heap.size=w.heap.size+2:=by simp
 have cI:=zbY f d hd hE B l i fin ((w.alloc (.cells #[.pointer (some ⟨B,0,none⟩)] 160)).alloc (.cells #[.int .i64 d] 3)) w.heap.size (w.heap.size+1) g lb eg R (zS hr hal)
  ((World.cell?_alloc_old _ _ _ (by simp)).trans (World.cell?_alloc_at _ _ _ _ rfl)) (World.cell?_alloc_at _ _ _ _ (by simp)) (by omega) (by omega)
  (fun e he w' hm'=>hbad e he w' (hm.trans hm'))
  (fun xs j hx w' v hm' hr' hv=>hok xs j hx w' v (hm.trans hm') hr' (jA ⟨fun _ _=>rfl,fun b hb=>⟨by have:=hb.1; omega,hb.2⟩⟩ hv))
 have HCI:=zd cI;have hef:=z8;clear cI hbad hok hr hal hm hsz hE eg;go_enter Tryz.func312,Tryz.ntmps312;go_wp2_with fail;refine HCI.out.mono ?_;rintro e w' ⟨y,rfl,hy⟩;have HY:=zd hy;clear hy;go_wp2_with fail;go_ret;exact⟨_,rfl,HY.out⟩
theorem KE:∀(f d:Nat),d+f=41->jd f d
 |0,d,h=>zem d (by omega) (by omega)
 |f+1,d,h=>by
  have hE:=KE f (d+1) (by omega);exact zen f d (by omega) (zaW f d (by omega) hE (zep f d (by omega) hE (KD f d (by omega) hE) (zeo f d (KD f d (by omega) hE))))
theorem zcI {l:zB}:∀(f i:Nat) (t:Ty) (j:Nat),pTy l f i=.ok t j->i<=j
 |0,_,_,_,h=>by rw[pTy] at h; cases h
 |f+1,i,t,j,h=>by
  rw[pTy] at h
  split at h
  ·injection h with _ h; omega
  ·split at h
   ·injection h with _ h; omega
   ·split at h
    ·split at h
     ·cases h
     ·rename_i hk
      have:=zcI f _ _ _ hk
      split at h
      ·injection h with _ h; omega
      ·cases h
    ·split at h
     ·cases h
     ·rename_i hk
      have:=Jn hk;injection h with _ h; omega
theorem zdj {l:zB} {s:List UInt8} {i:Nat} {x:Fd} {j:Nat} (h:qX l s i=.ok x j):i<=j:=by
 unfold qX at h
 split at h
 ·cases h
 ·split at h
  ·split at h
   ·cases h
   ·rename_i hk
    have:=zcI _ _ _ _ hk;injection h with _ h; omega
  ·cases h
theorem Qh {B base bl n1:Nat} {xs:List Fd} {la:Option Addr} {cap:Nat} {ys:List Value} {W W':World} (h:ListOf FdC 86 38 base bl n1 xs la cap ys W) (hm:Moved B W W') (hB:B<bl) (hbl:bl<base):ListOf FdC 86 38 base bl n1 xs la cap ys W':=
 ListOf.moved (C:=FdC) (fun hk h=>yD hk h) h hm hB hbl
theorem VW {base bl n1:Nat} {xs:List Fd} {x:Fd} {la:Option Addr} {cap g cap':Nat} {ys:List Value} {W W':World} {k:Int} {f s:ByteArray} {va1:Option Addr} {va2 va3:Nat} (h:ListOf FdC 86 38 base bl n1 xs la cap ys W) (hbl:bl<base) (hn1:base<=n1) (hnm:x.name.size<=maxLen) (hcs:xJ (zm n1 W) W x.is k f s (.slice va1 va2 va3))
  (hg:Grew base bl 86 38 (.slice la xs.length cap) (.slice (some ⟨g,0,none⟩) (xs.length+1) cap') (xs.length+1) (ys++[.string x.name,.int .i64 k,.string f,.string s,.slice va1 va2 va3]) W W') :
  ListOf FdC 86 38 base bl W'.heap.size (xs++[x]) (some ⟨g,0,none⟩) cap' (ys++[.string x.name,.int .i64 k,.string f,.string s,.slice va1 va2 va3]) W':=
 ListOf.push (C:=FdC) (fun hk h=>yD hk h) h hbl hn1 rfl ⟨_,_,_,_,_,_,rfl,hnm,hcs⟩ hg
theorem zer {base bl n1 n0:Nat} {xs:List Fd} {la:Option Addr} {cap:Nat} {ys:List Value} {W:World} (h:ListOf FdC 86 38 base bl n1 xs la cap ys W) (hn0:n0<=base) (hmax:xs.length<=maxLen):ze (zm n0 W) (qO (zm n0 W) W) 5 xs (.slice la xs.length cap):=
 ListOf.toSl (C:=FdC) (P:=qO) (fun hk h=>yD hk h) (fun h1 h2 h3=>zaV h1 h2 h3) h hn0 hmax
theorem zf1 (B:Nat) (l:zB) (fin:ByteArray) (w0 Wb:World) (base bl br bo bn be bk g1 g:Nat) (lb1 lb:Array Value) (e1:∀args w,(callFunc g1 args).run Tryz.prog w=.ok (.enter g1 args) w) (eg:∀args w,(callFunc g args).run Tryz.prog w=.ok (.enter g args) w) (R:Int->World->Prop)
  (hw0:Moved B w0 Wb) (hBl:B<bl) (h0l:w0.heap.size<=bl) (hbl:bl<base)
  (xr:LBox B bl base br (.pointer (some ⟨B,0,none⟩)) Wb) (xo:LBox B bl base bo (.func (.func g1) #[] lb1) Wb)
  (xn:LBox B bl base bn (.func (.func 287) #[] #[.pointer (some ⟨bl,0,none⟩),.pointer (some ⟨br,0,none⟩),.pointer (some ⟨bo,0,none⟩),.pointer (some ⟨bn,0,none⟩),.pointer (some ⟨be,0,none⟩),.pointer (some ⟨bk,0,none⟩)]) Wb)
  (xe:LBox B bl base be (.string fin) Wb) (xk:LBox B bl base bk (.func (.func g) #[] lb) Wb)
  (hOne:∀(i:Nat) (W:World),zv B l i W->Kept B bl base Wb W->∀(g':Nat) (lb':Array Value),(∀args w,(callFunc g' args).run Tryz.prog w=.ok (.enter g' args) w)->
   (∀e,qX l [58] i=.bad e->∀w',Moved B W w'->R e w')->
   (∀x j,qX l [58] i=.ok x j->∀w' v,Moved B W w'->zv B l j w'->XQ (zm W.heap.size w') w' x v->Calls Tryz.prog g' (#[v]++lb') w' (zQ R))->
   Calls Tryz.prog g1 (#[.func (.func g') #[] lb']++lb1) W (zQ R)) :
  ∀(N i:Nat) (x:Fd) (v:Value) (n1:Nat) (xs:List Fd) (la:Option Addr) (lcap:Nat) (ys:List Value) (W:World),l.length<=i+N->xs.length<=i->zv B l i W->Kept B bl base Wb W->base<=n1->n1<=W.heap.size->
   ListOf FdC 86 38 base bl n1 xs la lcap ys W->XQ (zm n1 W) W x v->
   (∀e,yR (qX l [58]) l fin.data.toList N xs x i=.bad e->∀w',Moved B w0 w'->R e w')->
   (∀zs j,yR (qX l [58]) l fin.data.toList N xs x i=.ok zs j->∀w' v',Moved B w0 w'->zv B l j w'->ze (zm w0.heap.size w') (qO (zm w0.heap.size w') w') 5 zs v'->Calls Tryz.prog g (#[v']++lb) w' (zQ R))->
   Calls Tryz.prog 287 #[v,.pointer (some ⟨bl,0,none⟩),.pointer (some ⟨br,0,none⟩),.pointer (some ⟨bo,0,none⟩),.pointer (some ⟨bn,0,none⟩),.pointer (some ⟨be,0,none⟩),.pointer (some ⟨bk,0,none⟩)] W (zQ R):=by
 intro N
 induction N with
 |zero=>
  intro i x v n1 xs la lcap ys W hN hxi hr hk hn1 hn1W hL hx hbad hok;obtain⟨k,fo,s,va,rfl,hnm,hcs⟩:=hx;obtain⟨va1,va2,va3,rfl⟩:=hcs.slice;have hil:=zaL hr;have h200:=Jq hr;have hm63:(xs.length+1:Nat)<=maxLen:=by unfold maxLen; omega
  refine Jp bl br bo bn be bk base la lcap xs.length ys x.name k fo s va1 va2 va3 W B l i fin g1 g lb1 lb e1 eg R Wb _ hL.box hL.own hk.room hbl hm63 (by omega) hBl hr hk xr xo xn xe xk ?_ ?_ ?_
  ·intro hc
   have:=YD hc;omega
  ·intro hc hf g' cap' w w' hG hm hr'
   have hk':=(hk.grew hG hL.own hBl hbl).moved hm;have hL':=Qh (VW hL hbl hn1 hnm hcs hG) hm hBl hbl;have hS:=zer (n0:=w0.heap.size) hL' (by omega) (by simp; omega);have hlen:(xs++[x]).length=xs.length+1:=by simp
   rw[hlen] at hS;exact hok (xs++[x]) (i+1) (by unfold yR; rw[if_neg (by rw[hc]; simp),if_pos hf]) w' _ (hk'.toMoved hw0 h0l hbl) hr' hS
  ·intro hc hf g' cap' w w' hG hm
   exact hbad 4 (by unfold yR; rw[if_neg (by rw[hc]; simp),if_neg (by rw[hf]; simp)]) w' (((hk.grew hG hL.own hBl hbl).moved hm).toMoved hw0 h0l hbl)
 |succ N ih=>
  intro i x v n1 xs la lcap ys W hN hxi hr hk hn1 hn1W hL hx hbad hok;obtain⟨k,fo,s,va,rfl,hnm,hcs⟩:=hx;obtain⟨va1,va2,va3,rfl⟩:=hcs.slice;have hil:=zaL hr;have h200:=Jq hr;have hm63:(xs.length+1:Nat)<=maxLen:=by unfold maxLen; omega
  refine Jp bl br bo bn be bk base la lcap xs.length ys x.name k fo s va1 va2 va3 W B l i fin g1 g lb1 lb e1 eg R Wb _ hL.box hL.own hk.room hbl hm63 (by omega) hBl hr hk xr xo xn xe xk ?_ ?_ ?_
  ·intro hc g' cap' w w' hG hm hr'
   have hk':=(hk.grew hG hL.own hBl hbl).moved hm;have hL':=Qh (VW hL hbl hn1 hnm hcs hG) hm hBl hbl;have hP:yR (qX l [58]) l fin.data.toList (N+1) xs x i=qZ (qX l [58]) l fin.data.toList (N+1) (xs++[x]) (i+1):=if_pos hc;refine hOne (i+1) w' hr' hk' 287 _ (enters_of Tryz.func287 (by kernel_rfl) rfl) ?_ ?_
   ·intro e he w'' hm''
    exact hbad e (by rw[hP,Xb he]) w'' ((hk'.moved hm'').toMoved hw0 h0l hbl)
   ·intro y j hy w'' v hm'' hr'' hv
    have hadv:=zdj hy;exact ih j y v w'.heap.size (xs++[x]) _ _ _ w'' (by omega) (by simp; omega) hr'' (hk'.moved hm'') hk'.room hm''.below.size (Qh (hL'.wider hm.below.size) hm'' hBl hbl) hv
     (fun e he w3 hm3=>hbad e (by rw[hP,j5 hy]; exact he) w3 hm3)
     (fun zs j' hz w3 v3 hm3 hr3 hv3=>hok zs j' (by rw[hP,j5 hy]; exact hz) w3 v3 hm3 hr3 hv3)
  ·intro hc hf g' cap' w w' hG hm hr'
   have hk':=(hk.grew hG hL.own hBl hbl).moved hm;have hL':=Qh (VW hL hbl hn1 hnm hcs hG) hm hBl hbl;have hS:=zer (n0:=w0.heap.size) hL' (by omega) (by simp; omega);have hlen:(xs++[x]).length=xs.length+1:=by simp
   rw[hlen] at hS;exact hok (xs++[x]) (i+1) (by unfold yR; rw[if_neg (by rw[hc]; simp),if_pos hf]) w' _ (hk'.toMoved hw0 h0l hbl) hr' hS
  ·intro hc hf g' cap' w w' hG hm
   exact hbad 4 (by unfold yR; rw[if_neg (by rw[hc]; simp),if_neg (by rw[hf]; simp)]) w' (((hk.grew hG hL.own hBl hbl).moved hm).toMoved hw0 h0l hbl)
theorem KF (B:Nat) (l:zB) (i:Nat) (W:World) (br:Nat) (g:Nat) (lb:Array Value) (eg:∀args w,(callFunc g args).run Tryz.prog w=.ok (.enter g args) w) (R:Int->World->Prop) (hr:zv B l i W)
  (cr:W.cell? ⟨br,0,none⟩=some (.pointer (some ⟨B,0,none⟩)))
  (hbad:∀e,qX l [58] i=.bad e->∀w',Moved B W w'->R e w')
  (hok:∀x j,qX l [58] i=.ok x j->∀w' v,Moved B W w'->zv B l j w'->XQ (zm W.heap.size w') w' x v->Calls Tryz.prog g (#[v]++lb) w' (zQ R)) :
  Calls Tryz.prog 241 #[.func (.func g) #[] lb,.pointer (some ⟨br,0,none⟩)] W (zQ R):=by
 have HE:=zd (Jo B l i ⟨#[58]⟩ W g lb eg R hr hbad hok);clear hbad hok hr eg;go_enter Tryz.func241,Tryz.ntmps241;go_wp2_with fail;refine HE.out.mono ?_;rintro e w' ⟨y,rfl,hy⟩;have HY:=zd hy;clear hy;go_wp2_with fail;go_ret;exact⟨_,rfl,HY.out⟩
theorem zaY (B:Nat) (l:zB) (i:Nat) (fin:ByteArray) (w:World) (br:Nat) (g:Nat) (lb:Array Value) (eg:∀args w,(callFunc g args).run Tryz.prog w=.ok (.enter g args) w) (R:Int->World->Prop) (hr:zv B l i w)
  (cr:w.cell? ⟨br,0,none⟩=some (.pointer (some ⟨B,0,none⟩))) (hbr:B<br)
  (hbad:∀e,qZ (qX l [58]) l fin.data.toList (l.length+1) [] i=.bad e->∀w',Moved B w w'->R e w')
  (hok:∀xs j,qZ (qX l [58]) l fin.data.toList (l.length+1) [] i=.ok xs j->∀w' v,Moved B w w'->zv B l j w'->ze (zm w.heap.size w') (qO (zm w.heap.size w') w') 5 xs v->Calls Tryz.prog g (#[v]++lb) w' (zQ R)) :
  Calls Tryz.prog 242 #[.pointer (some ⟨B,0,none⟩),.string fin,.func (.func 241) #[] #[.pointer (some ⟨br,0,none⟩)],.func (.func g) #[] lb] w (zQ R):=by
 have hlt:=xC hr;have hbrw:br<w.heap.size:=World.block_lt_of_cell? w _ cr;obtain⟨Wb,hWb,hsz,p0,p1,p2,p3,p4,p5,hbel⟩:=zcH w (.cells #[.pointer (some ⟨B,0,none⟩)] 160) (.cells #[.string fin] 9) (.cells #[.func (.func 241) #[] #[.pointer (some ⟨br,0,none⟩)]] 273) (.cells #[.func (.func g) #[] lb] 228) (.cells #[.slice none 0 0] 38)
  (.cells #[.func (.func 287) #[] #[.pointer (some ⟨w.heap.size+4,0,none⟩),.pointer (some ⟨w.heap.size,0,none⟩),.pointer (some ⟨w.heap.size+2,0,none⟩),.pointer (some ⟨w.heap.size+5,0,none⟩),.pointer (some ⟨w.heap.size+1,0,none⟩),.pointer (some ⟨w.heap.size+3,0,none⟩)]] 138)
 have hm:Moved B w Wb:=Moved.of_below hbel (by omega);have hr0:=zS hr hbel;have cr0:Wb.cell? ⟨br,0,none⟩=some (.pointer (some ⟨B,0,none⟩)):=(hbel.cell (p:=⟨br,0,none⟩) hbrw).trans cr;have xbr:LBox B (w.heap.size+4) (w.heap.size+6) br (.pointer (some ⟨B,0,none⟩)) Wb:=⟨cr0,hbr,by omega,by omega⟩
 have hK0:Kept B (w.heap.size+4) (w.heap.size+6) Wb Wb:=⟨Below.refl _ _,fun _ _ _ _=>rfl,by omega⟩
 have hL0:ListOf FdC 86 38 (w.heap.size+6) (w.heap.size+4) (w.heap.size+6) [] none 0 [] Wb:=⟨p4,⟨rfl,Or.inl ⟨rfl,rfl⟩⟩,fun g' h=>(by cases h),fun j hj=>absurd hj (by simp)⟩
 have cI:=KF B l i Wb br 287 #[.pointer (some ⟨w.heap.size+4,0,none⟩),.pointer (some ⟨w.heap.size,0,none⟩),.pointer (some ⟨w.heap.size+2,0,none⟩),.pointer (some ⟨w.heap.size+5,0,none⟩),.pointer (some ⟨w.heap.size+1,0,none⟩),.pointer (some ⟨w.heap.size+3,0,none⟩)] (enters_of Tryz.func287 (by kernel_rfl) rfl) R hr0 cr0
  (fun e he w' hm'=>hbad e (Xb he) w' (hm.trans hm'))
  (fun x j hx w' v hm' hr' hv=>by
   refine zf1 B l fin w Wb (w.heap.size+6) (w.heap.size+4) w.heap.size (w.heap.size+2) (w.heap.size+5) (w.heap.size+1) (w.heap.size+3) 241 g #[.pointer (some ⟨br,0,none⟩)] lb (enters_of Tryz.func241 (by kernel_rfl) rfl) eg R hm (by omega) (by omega) (by omega)
    ⟨jo p0,by omega,by omega,by omega⟩ ⟨jo p2,by omega,by omega,by omega⟩ ⟨jo p5,by omega,by omega,by omega⟩ ⟨jo p1,by omega,by omega,by omega⟩ ⟨jo p3,by omega,by omega,by omega⟩
    (fun i' W hr1 hk1 g' lb' eg' hbad' hok'=>KF B l i' W br g' lb' eg' R hr1 (xbr.later hk1) hbad' hok')
    l.length j x v (w.heap.size+6) [] none 0 [] w' (by omega) (by simp) hr' (hK0.moved hm') (Nat.le_refl _) (by have:=hm'.below.size; omega) (Qh hL0 hm' (by omega) (by omega)) (by rw[hsz] at hv; exact hv) ?_ ?_
   ·intro e he w'' hm''
    exact hbad e (by rw[j5 hx]; exact he) w'' hm''
   ·intro zs j' hz w'' v' hm'' hr'' hv'
    exact hok zs j' (by rw[j5 hx]; exact hz) w'' v' hm'' hr'' hv')
 rw[<- hWb] at cI;have HCI:=zd cI;have hef:=z8;have e1:=enters_of (P:=Tryz.prog) Tryz.func241 (by kernel_rfl) rfl;clear cI hbad hok hr hWb hsz p0 p1 p2 p3 p4 p5 hbel hm hr0 cr0 xbr hK0 hL0 cr eg hbrw;go_enter Tryz.func242,Tryz.ntmps242;go_wp2_with fail;refine HCI.out.mono ?_;rintro e w' ⟨y,rfl,hy⟩;have HY:=zd hy;clear hy;go_wp2_with fail;go_ret;exact⟨_,rfl,HY.out⟩
def zbZ:Prop:=∀(B:Nat) (l:zB) (i:Nat) (w:World) (g:Nat) (lb:Array Value),(∀args w,(callFunc g args).run Tryz.prog w=.ok (.enter g args) w)->∀(R:Int->World->Prop),zv B l i w->
  (∀e,Ze l i=.bad e->∀w',Moved B w w'->R e w')->
  (∀xs j,Ze l i=.ok xs j->∀w' v,Moved B w w'->zv B l j w'->ze (zm w.heap.size w') (qO (zm w.heap.size w') w') 5 xs v->Calls Tryz.prog g (#[v]++lb) w' (zQ R))->
  Calls Tryz.prog 169 #[.pointer (some ⟨B,0,none⟩),.func (.func g) #[] lb] w (zQ R)
theorem zb0:zbZ:=by
 intro B l i w g lb eg R hr hbad hok;have hlt:=xC hr;have hal:Below w.heap.size w (w.alloc (.cells #[.pointer (some ⟨B,0,none⟩)] 160)):=(Below.refl _ _).alloc (Nat.le_refl _) _;have HM0:Hid (Moved B w (w.alloc (.cells #[.pointer (some ⟨B,0,none⟩)] 160))):=Moved.of_below hal (by omega);have HR0:=zd (zS hr hal);have HBad:=zd hbad;have HOk:=zd hok;have HEg:=zd eg;have hef:=z8;clear hbad hok hr hal eg;go_enter Tryz.func169,Tryz.ntmps169;go_wp2_with fail;refine (qh B l i ⟨#[41]⟩ _ HR0.out).mono ?_;rintro e w1 ⟨rfl,q1,q2⟩;have HM1:=zd (HM0.out.trans q2);have hsz1:w.heap.size+1<=w1.heap.size:=by have:=q2.below.size; simpa using this
 have c1:w1.cell? ⟨w.heap.size,0,none⟩=some (.pointer (some ⟨B,0,none⟩)):=(q2.cell (by omega) (by simp) 0).trans (World.cell?_alloc_at _ _ _ _ rfl)
 cases hs:sgn l i [41]
 ·have hs':sgn l i (ByteArray.mk #[41]).data.toList=false:=hs
  rw[hs'] at q1;have q1':zv B l i w1:=q1;have hP:Ze l i=qZ (qX l [58]) l [41] (l.length+1) [] i:=by unfold Ze; rw[if_neg (by rw[hs]; simp)]
  have cI:=zaY B l i ⟨#[41]⟩ w1 w.heap.size g lb HEg.out R q1' c1 (by omega)
   (fun e he w' hm'=>HBad.out e (by rw[hP]; exact he) w' (HM1.out.trans hm'))
   (fun xs j hx w' v hm' hr' hv=>HOk.out xs j (by rw[hP]; exact hx) w' v (HM1.out.trans hm') hr' (zP ⟨fun _ _=>rfl,fun b hb=>⟨by have:=hb.1; omega,hb.2⟩⟩ hv))
  have HCI:=zd cI
  try rw[hs']
  clear q1 q1' q2 hs hs' HBad HOk cI hP;go_wp2_with fail;refine HCI.out.mono ?_;rintro e w' ⟨y,rfl,hy⟩;have HY:=zd hy;clear hy;go_wp2_with fail;go_ret;exact⟨_,rfl,HY.out⟩
 ·have hs':sgn l i (ByteArray.mk #[41]).data.toList=true:=hs
  rw[hs'] at q1;have q1':zv B l (i+1) w1:=q1;have HCI:=zd (HOk.out [] (i+1) (by unfold Ze; rw[if_pos hs]) w1 _ HM1.out q1' yo);have eg:=HEg.out
  try rw[hs']
  clear q1 q1' q2 hs hs' HBad HOk;go_wp2_with fail;refine HCI.out.mono ?_;rintro e w' ⟨y,rfl,hy⟩;have HY:=zd hy;clear hy;go_wp2_with fail;go_ret;exact⟨_,rfl,HY.out⟩
structure FBox (B:Nat) (br bk bn bv:Nat) (g:Nat) (lb:Array Value) (nm vr:ByteArray) (W:World):Prop where
 r:W.cell? ⟨br,0,none⟩=some (.pointer (some ⟨B,0,none⟩))
 k:W.cell? ⟨bk,0,none⟩=some (.func (.func g) #[] lb)
 n:W.cell? ⟨bn,0,none⟩=some (.string nm)
 v:W.cell? ⟨bv,0,none⟩=some (.string vr)
 hr:B<br
 hk:B<bk
 hn:B<bn
 hv:B<bv
theorem FBox.keep {B br bk bn bv g:Nat} {lb:Array Value} {nm vr:ByteArray} {W W':World} (h:FBox B br bk bn bv g lb nm vr W) (hm:Moved B W W'):FBox B br bk bn bv g lb nm vr W':=
 ⟨(hm.cell h.hr (World.block_lt_of_cell? W _ h.r) 0).trans h.r,(hm.cell h.hk (World.block_lt_of_cell? W _ h.k) 0).trans h.k,(hm.cell h.hn (World.block_lt_of_cell? W _ h.n) 0).trans h.n,(hm.cell h.hv (World.block_lt_of_cell? W _ h.v) 0).trans h.v,h.hr,h.hk,h.hn,h.hv⟩
theorem zes (g:Nat) (lb:Array Value) (eg:∀args w,(callFunc g args).run Tryz.prog w=.ok (.enter g args) w) (R:Int->World->Prop) (bk bn bv bp bt:Nat) (nm vr:ByteArray) (vp1:Option Addr) (vp2 vp3:Nat) (k:Int) (f n:ByteArray) (va1:Option Addr) (va2 va3:Nat) (k' n':Int) (f' s':ByteArray) (ve1:Option Addr) (ve2 ve3:Nat) (W:World)
  (ck:W.cell? ⟨bk,0,none⟩=some (.func (.func g) #[] lb)) (cn:W.cell? ⟨bn,0,none⟩=some (.string nm)) (cv:W.cell? ⟨bv,0,none⟩=some (.string vr)) (cp:W.cell? ⟨bp,0,none⟩=some (.slice vp1 vp2 vp3))
  (t0:W.cell? ⟨bt,0,none⟩=some (.int .i64 k)) (t1:W.cell? ⟨bt,1,none⟩=some (.string f)) (t2:W.cell? ⟨bt,2,none⟩=some (.string n)) (t3:W.cell? ⟨bt,3,none⟩=some (.slice va1 va2 va3))
  (h:Calls Tryz.prog g (#[.agg #[.string nm,.string vr,.slice vp1 vp2 vp3,.int .i64 k,.string f,.string n,.slice va1 va2 va3,.int .i64 k',.int .i64 n',.string f',.string s',.slice ve1 ve2 ve3]]++lb) (W.alloc (.cells #[.int .i64 k',.int .i64 n',.string f',.string s',.slice ve1 ve2 ve3] 70)) (zQ R)) :
  Calls Tryz.prog 173 #[.agg #[.int .i64 k',.int .i64 n',.string f',.string s',.slice ve1 ve2 ve3],.pointer (some ⟨bk,0,none⟩),.pointer (some ⟨bn,0,none⟩),.pointer (some ⟨bv,0,none⟩),.pointer (some ⟨bp,0,none⟩),.pointer (some ⟨bt,0,none⟩)] W (zQ R):=by
 have HK:=zd h;have hbk:bk<W.heap.size:=World.block_lt_of_cell? W _ ck;have hbn:bn<W.heap.size:=World.block_lt_of_cell? W _ cn;have hbv:bv<W.heap.size:=World.block_lt_of_cell? W _ cv;have hbp:bp<W.heap.size:=World.block_lt_of_cell? W _ cp;have hbt:bt<W.heap.size:=World.block_lt_of_cell? W _ t0;clear h;go_enter Tryz.func173,Tryz.ntmps173;go_wp2_with fail;refine HK.out.mono ?_;rintro e w' ⟨y,rfl,hy⟩;have HY:=zd hy;clear hy;go_wp2_with fail;go_ret;exact⟨_,rfl,HY.out⟩
theorem zet (B:Nat) (l:zB) (j n0:Nat) (g:Nat) (lb:Array Value) (eg:∀args w,(callFunc g args).run Tryz.prog w=.ok (.enter g args) w) (R:Int->World->Prop) (br bk bn bv bp:Nat) (nm vr:ByteArray) (ps:List Fd) (t:Ty) (vp1:Option Addr) (vp2 vp3:Nat) (k:Int) (f n:ByteArray) (va1:Option Addr) (va2 va3:Nat) (W:World)
  (hr:zv B l j W) (hBn:B<n0) (hnW:n0<=W.heap.size) (hbx:FBox B br bk bn bv g lb nm vr W) (cp:W.cell? ⟨bp,0,none⟩=some (.slice vp1 vp2 vp3)) (hbp:B<bp) (hnm:nm.size<=maxLen) (hvr:vr.size<=maxLen)
  (hps:ze (zm n0 W) (qO (zm n0 W) W) 5 ps (.slice vp1 vp2 vp3)) (ht:xJ (zm n0 W) W t k f n (.slice va1 va2 va3))
  (hno:sgn l j [61]=false->∀w',Moved B W w'->R 4 w')
  (hbad:sgn l j [61]=true->∀e,pEx l 40 (j+1)=.bad e->∀w',Moved B W w'->R e w')
  (hok:sgn l j [61]=true->∀x j',pEx l 40 (j+1)=.ok x j'->∀w' v,Moved B W w'->zv B l j' w'->Xo (zm n0 w') w' ⟨nm,vr,ps,t,x⟩ v->Calls Tryz.prog g (#[v]++lb) w' (zQ R)) :
  Calls Tryz.prog 171 #[.agg #[.int .i64 k,.string f,.string n,.slice va1 va2 va3],.pointer (some ⟨br,0,none⟩),.pointer (some ⟨bk,0,none⟩),.pointer (some ⟨bn,0,none⟩),.pointer (some ⟨bv,0,none⟩),.pointer (some ⟨bp,0,none⟩)] W (zQ R):=by
 have hlt:=xC hr;have hbpW:bp<W.heap.size:=World.block_lt_of_cell? W _ cp;have hal:Below W.heap.size W (W.alloc (.cells #[.int .i64 k,.string f,.string n,.slice va1 va2 va3] 67)):=(Below.refl _ _).alloc (Nat.le_refl _) _;have hm0:Moved B W (W.alloc (.cells #[.int .i64 k,.string f,.string n,.slice va1 va2 va3] 67)):=Moved.of_below hal (by omega);have HM0:=zd hm0;have HR0:=zd (zS hr hal);have hbx0:=hbx.keep hm0;have cr:=hbx0.r;have HBx:=zd hbx;have HCp:=zd cp;have HPs:=zd hps;have HT:=zd ht;have HNo:=zd hno;have HBad:=zd hbad;have HOk:=zd hok;have HEg:=zd eg;have HNm:=zd hnm;have HVr:=zd hvr;have hef:=z8;clear hr hbx cp hps ht hno hbad hok eg hnm hvr hal hm0 hbx0;go_enter Tryz.func171,Tryz.ntmps171;go_wp2_with fail;refine (qh B l j ⟨#[61]⟩ _ HR0.out).mono ?_;rintro e w1 ⟨rfl,q1,q2⟩;have hm1:=HM0.out.trans q2;have HM1:=zd hm1;have hsz1:W.heap.size+1<=w1.heap.size:=by have:=q2.below.size; simpa using this
 cases hs:sgn l j [61]
 ·have hs':sgn l j (ByteArray.mk #[61]).data.toList=false:=hs
  have HB:=zd (HNo.out hs w1 hm1)
  try rw[hs']
  clear q1 q2 hs hs' hm1 cr;go_wp2_with fail;go_ret;exact⟨_,rfl,HB.out⟩
 ·have hs':sgn l j (ByteArray.mk #[61]).data.toList=true:=hs
  rw[hs'] at q1;have q1':zv B l (j+1) w1:=q1;have b0:w1.cell? ⟨W.heap.size,0,none⟩=some (.int .i64 k):=(q2.cell (by omega) (by simp) 0).trans (World.cell?_alloc_at _ _ _ _ rfl);have b1:w1.cell? ⟨W.heap.size,1,none⟩=some (.string f):=(q2.cell (by omega) (by simp) 1).trans (World.cell?_alloc_at _ _ _ _ rfl);have b2:w1.cell? ⟨W.heap.size,2,none⟩=some (.string n):=(q2.cell (by omega) (by simp) 2).trans (World.cell?_alloc_at _ _ _ _ rfl);have b3:w1.cell? ⟨W.heap.size,3,none⟩=some (.slice va1 va2 va3):=(q2.cell (by omega) (by simp) 3).trans (World.cell?_alloc_at _ _ _ _ rfl);have cE:=KE 40 1 rfl B l (j+1) w1 173 #[.pointer (some ⟨bk,0,none⟩),.pointer (some ⟨bn,0,none⟩),.pointer (some ⟨bv,0,none⟩),.pointer (some ⟨bp,0,none⟩),.pointer (some ⟨W.heap.size,0,none⟩)] (enters_of Tryz.func173 (by kernel_rfl) rfl) R q1'
   (fun e he w' hm'=>HBad.out hs e he w' (hm1.trans hm'))
   (fun x j' hx w' v hm' hr' hv=>by
    obtain⟨k',n',f',s',va,rfl,hcs⟩:=hv;obtain⟨ve1,ve2,ve3,rfl⟩:=hcs.slice;have hm2:=hm1.trans hm';have hbx':=HBx.out.keep hm2;have hsz':=hm'.below.size;have hal3:Below w'.heap.size w' (w'.alloc (.cells #[.int .i64 k',.int .i64 n',.string f',.string s',.slice ve1 ve2 ve3] 70)):=(Below.refl _ _).alloc (Nat.le_refl _) _;have hm3:Moved B w' (w'.alloc (.cells #[.int .i64 k',.int .i64 n',.string f',.string s',.slice ve1 ve2 ve3] 70)):=Moved.of_below hal3 (by omega);refine zes g lb HEg.out R bk bn bv bp W.heap.size nm vr vp1 vp2 vp3 k f n va1 va2 va3 k' n' f' s' ve1 ve2 ve3 w' hbx'.k hbx'.n hbx'.v ((hm2.cell hbp hbpW 0).trans HCp.out) ((hm'.cell (by omega) (by omega) 0).trans b0) ((hm'.cell (by omega) (by omega) 1).trans b1) ((hm'.cell (by omega) (by omega) 2).trans b2) ((hm'.cell (by omega) (by omega) 3).trans b3) ?_;have hk1:=xH hBn (hm2.trans hm3);refine HOk.out hs x j' hx _ _ (hm2.trans hm3) (zS hr' hal3) ⟨_,k,f,n,_,k',n',f',s',_,rfl,HNm.out,HVr.out,zP hk1 HPs.out,HT.out.keep hk1,?_⟩;exact hcs.keep ⟨fun b hb=>hm3.above b (by have:=hb.1; omega) hb.2,fun b hb=>⟨by have:=hb.1; omega,Nat.lt_of_lt_of_le hb.2 hal3.size⟩⟩)
  have HCE:=zd cE;have cr1:=(HBx.out.keep hm1).r
  try rw[hs']
  clear q1 q1' q2 hs hs' hm1 cE cr b0 b1 b2 b3;go_wp2_with fail;refine HCE.out.mono ?_;rintro e w' ⟨y,rfl,hy⟩;have HY:=zd hy;clear hy;go_wp2_with fail;go_ret;exact⟨_,rfl,HY.out⟩
theorem zeu (B:Nat) (l:zB) (j n0:Nat) (g:Nat) (lb:Array Value) (eg:∀args w,(callFunc g args).run Tryz.prog w=.ok (.enter g args) w) (R:Int->World->Prop) (br bk bn bv:Nat) (nm vr:ByteArray) (ps:List Fd) (vp1:Option Addr) (vp2 vp3:Nat) (W:World)
  (hr:zv B l j W) (hBn:B<n0) (hnW:n0<=W.heap.size) (hbx:FBox B br bk bn bv g lb nm vr W) (hnm:nm.size<=maxLen) (hvr:vr.size<=maxLen)
  (hps:ze (zm n0 W) (qO (zm n0 W) W) 5 ps (.slice vp1 vp2 vp3))
  (hno:sgn l j [58]=false->∀w',Moved B W w'->R 4 w')
  (hbadT:sgn l j [58]=true->∀e,pTy l 40 (j+1)=.bad e->∀w',Moved B W w'->R e w')
  (hno2:sgn l j [58]=true->∀t j2,pTy l 40 (j+1)=.ok t j2->sgn l j2 [61]=false->∀w',Moved B W w'->R 4 w')
  (hbad:sgn l j [58]=true->∀t j2,pTy l 40 (j+1)=.ok t j2->sgn l j2 [61]=true->∀e,pEx l 40 (j2+1)=.bad e->∀w',Moved B W w'->R e w')
  (hok:sgn l j [58]=true->∀t j2,pTy l 40 (j+1)=.ok t j2->sgn l j2 [61]=true->∀x j',pEx l 40 (j2+1)=.ok x j'->∀w' v,Moved B W w'->zv B l j' w'->Xo (zm n0 w') w' ⟨nm,vr,ps,t,x⟩ v->Calls Tryz.prog g (#[v]++lb) w' (zQ R)) :
  Calls Tryz.prog 170 #[.slice vp1 vp2 vp3,.pointer (some ⟨br,0,none⟩),.pointer (some ⟨bk,0,none⟩),.pointer (some ⟨bn,0,none⟩),.pointer (some ⟨bv,0,none⟩)] W (zQ R):=by
 have hlt:=xC hr;have hal:Below W.heap.size W (W.alloc (.cells #[.slice vp1 vp2 vp3] 38)):=(Below.refl _ _).alloc (Nat.le_refl _) _;have hm0:Moved B W (W.alloc (.cells #[.slice vp1 vp2 vp3] 38)):=Moved.of_below hal (by omega);have HM0:=zd hm0;have HR0:=zd (zS hr hal);have hbx0:=hbx.keep hm0;have cr:=hbx0.r;have HBx:=zd hbx;have HPs:=zd hps;have HNo:=zd hno;have HBadT:=zd hbadT;have HNo2:=zd hno2;have HBad:=zd hbad;have HOk:=zd hok;have HEg:=zd eg;have HNm:=zd hnm;have HVr:=zd hvr;have hef:=z8;clear hr hbx hps hno hbad hok eg hnm hvr hal hm0 hbx0 hbadT hno2;go_enter Tryz.func170,Tryz.ntmps170;go_wp2_with fail;refine (qh B l j ⟨#[58]⟩ _ HR0.out).mono ?_;rintro e w1 ⟨rfl,q1,q2⟩;have hm1:=HM0.out.trans q2;have HM1:=zd hm1;have hsz1:W.heap.size+1<=w1.heap.size:=by have:=q2.below.size; simpa using this
 cases hs:sgn l j [58]
 ·have hs':sgn l j (ByteArray.mk #[58]).data.toList=false:=hs
  have HB:=zd (HNo.out hs w1 hm1)
  try rw[hs']
  clear q1 q2 hs hs' hm1 cr;go_wp2_with fail;go_ret;exact⟨_,rfl,HB.out⟩
 ·have hs':sgn l j (ByteArray.mk #[58]).data.toList=true:=hs
  rw[hs'] at q1;have q1':zv B l (j+1) w1:=q1;have b0:w1.cell? ⟨W.heap.size,0,none⟩=some (.slice vp1 vp2 vp3):=(q2.cell (by omega) (by simp) 0).trans (World.cell?_alloc_at _ _ _ _ rfl);have cT:=zaU 40 1 rfl B l (j+1) w1 171 #[.pointer (some ⟨br,0,none⟩),.pointer (some ⟨bk,0,none⟩),.pointer (some ⟨bn,0,none⟩),.pointer (some ⟨bv,0,none⟩),.pointer (some ⟨W.heap.size,0,none⟩)] (enters_of Tryz.func171 (by kernel_rfl) rfl) R q1'
   (fun e he w' hm'=>HBadT.out hs e he w' (hm1.trans hm'))
   (fun t j2 hty w' v hm' hr' hv=>by
    obtain⟨k,f,n,va,rfl,hcs⟩:=hv;obtain⟨va1,va2,va3,rfl⟩:=hcs.slice;have hm2:=hm1.trans hm';have hsz':=hm'.below.size;have hk1:=xH hBn hm2;exact zet B l j2 n0 g lb HEg.out R br bk bn bv W.heap.size nm vr ps t vp1 vp2 vp3 k f n va1 va2 va3 w' hr' hBn (by omega) (HBx.out.keep hm2) ((hm'.cell (by omega) (by omega) 0).trans b0) (by omega) HNm.out HVr.out (zP hk1 HPs.out)
     (hcs.keep ⟨fun _ _=>rfl,fun b hb=>⟨by have:=hb.1; omega,hb.2⟩⟩)
     (fun h2 w'' hm''=>HNo2.out hs t j2 hty h2 w'' (hm2.trans hm''))
     (fun h2 e he w'' hm''=>HBad.out hs t j2 hty h2 e he w'' (hm2.trans hm''))
     (fun h2 x j' hx w'' v' hm'' hr'' hv'=>HOk.out hs t j2 hty h2 x j' hx w'' v' (hm2.trans hm'') hr'' hv'))
  have HCT:=zd cT;have cr1:=(HBx.out.keep hm1).r
  try rw[hs']
  clear q1 q1' q2 hs hs' hm1 cT cr b0;go_wp2_with fail;refine HCT.out.mono ?_;rintro e w' ⟨y,rfl,hy⟩;have HY:=zd hy;clear hy;go_wp2_with fail;go_ret;exact⟨_,rfl,HY.out⟩
def zf2:Prop:=∀(B:Nat) (l:zB) (i:Nat) (w:World) (g:Nat) (lb:Array Value),(∀args w,(callFunc g args).run Tryz.prog w=.ok (.enter g args) w)->∀(R:Int->World->Prop),zv B l i w->
  (∀e,kH l i=.bad e->∀w',Moved B w w'->R e w')->
  (∀x j,kH l i=.ok x j->∀w' v,Moved B w w'->zv B l j w'->Xo (zm w.heap.size w') w' x v->Calls Tryz.prog g (#[v]++lb) w' (zQ R))->
  Calls Tryz.prog 101 #[.pointer (some ⟨B,0,none⟩),.func (.func g) #[] lb] w (zQ R)
theorem zf3:zf2:=by
 intro B l i w g lb eg R hr hbad hok;have hlt:=xC hr;have hal:Below w.heap.size w ((w.alloc (.cells #[.pointer (some ⟨B,0,none⟩)] 160)).alloc (.cells #[.func (.func g) #[] lb] 140)):=((Below.refl _ _).alloc (Nat.le_refl _) _).alloc (by simp) _;have hm0:Moved B w ((w.alloc (.cells #[.pointer (some ⟨B,0,none⟩)] 160)).alloc (.cells #[.func (.func g) #[] lb] 140)):=Moved.of_below hal (by omega);have hw0:∃wa,((w.alloc (.cells #[.pointer (some ⟨B,0,none⟩)] 160)).alloc (.cells #[.func (.func g) #[] lb] 140))=wa/\wa.cell? ⟨w.heap.size,0,none⟩=some (.pointer (some ⟨B,0,none⟩))/\wa.cell? ⟨w.heap.size+1,0,none⟩=some (.func (.func g) #[] lb)/\wa.heap.size=w.heap.size+2:=
  ⟨_,rfl,(World.cell?_alloc_old _ _ _ (by simp)).trans (World.cell?_alloc_at _ _ _ _ rfl),World.cell?_alloc_at _ _ _ _ (by simp),by simp⟩
 have hra:=zS hr hal;obtain⟨wa,hwa,a0,a1,hsa⟩:=hw0;rw[hwa] at hm0 hra;have HM0:=zd hm0;have HR0:=zd hra;have HBad:=zd hbad;have HOk:=zd hok;have HEg:=zd eg;have hef:=z8;have HXa:=zd (show ∀W,Moved B wa W->W.cell? ⟨w.heap.size,0,none⟩=some (.pointer (some ⟨B,0,none⟩))/\W.cell? ⟨w.heap.size+1,0,none⟩=some (.func (.func g) #[] lb) from fun W h=>⟨(h.cell (by omega) (by omega) 0).trans a0,(h.cell (by omega) (by omega) 0).trans a1⟩);clear hbad hok hr hal eg hm0 hra;go_enter Tryz.func101,Tryz.ntmps101;go_wp2_with fail
 try rw[hwa]
 refine (km B l i _ HR0.out).mono ?_;rintro e w1 ⟨hm,⟨hi,t,i',rfl,hr⟩|⟨t,hi,hok,rfl,hr⟩⟩
 ·have hsz1:w.heap.size+2<=w1.heap.size:=by have:=hm.below.size; omega
  have HB:=zd (HBad.out 4 (by unfold kH; rw[hi]) (w1.alloc (.cells #[.string t] 9)) ((HM0.out.trans hm).alloc (by omega) _));clear hm hi hr HBad HOk hwa a0 a1;go_wp2_with fail;go_ret;exact⟨_,rfl,HB.out⟩
 ·have hsz1:w.heap.size+2<=w1.heap.size:=by have:=hm.below.size; omega
  have HI:=zd hi;have HTs:=zd (ZL hok);obtain⟨p0,p1⟩:=HXa.out w1 hm;have hal2:Below w1.heap.size w1 (w1.alloc (.cells #[.string t] 9)):=(Below.refl _ _).alloc (Nat.le_refl _) _;have hw2:∃w2,w1.alloc (.cells #[.string t] 9)=w2/\w2.cell? ⟨w.heap.size,0,none⟩=some (.pointer (some ⟨B,0,none⟩))/\w2.cell? ⟨w.heap.size+1,0,none⟩=some (.func (.func g) #[] lb)/\w2.cell? ⟨w1.heap.size,0,none⟩=some (.string t)/\w2.heap.size=w1.heap.size+1:=
   ⟨_,rfl,(World.cell?_alloc_old _ _ _ (by show w.heap.size≠_; omega)).trans p0,(World.cell?_alloc_old _ _ _ (by show w.heap.size+1≠_; omega)).trans p1,World.cell?_alloc_at _ _ _ _ rfl,by simp⟩
  have hm2:Moved B w (w1.alloc (.cells #[.string t] 9)):=(HM0.out.trans hm).trans (Moved.of_below hal2 (by omega));have hr2:=zS hr hal2;obtain⟨w2,hwe,x0,x1,x2,hs2⟩:=hw2;rw[hwe] at hm2 hr2;have HM2:=zd hm2;have HR2:=zd hr2;have HX2:=zd (show ∀W,Moved B w2 W->W.cell? ⟨w.heap.size,0,none⟩=some (.pointer (some ⟨B,0,none⟩))/\W.cell? ⟨w.heap.size+1,0,none⟩=some (.func (.func g) #[] lb)/\W.cell? ⟨w1.heap.size,0,none⟩=some (.string t) from fun W h=>⟨(h.cell (by omega) (by omega) 0).trans x0,(h.cell (by omega) (by omega) 0).trans x1,(h.cell (by omega) (by omega) 0).trans x2⟩);clear hm hi hr hok hal2 hm2 hr2 p0 p1 a0 a1 hwa HXa HR0;go_wp2_with fail
  try rw[hwe]
  refine (zat B l (i+1) _ HR2.out).mono ?_;rintro e w3 ⟨hm,⟨hv,vt,rfl⟩|⟨vt,j,hv,hvs,rfl,hr⟩⟩
  ·have hsz3:=hm.below.size
   have HB:=zd (HBad.out 4 (by unfold kH; simp only[HI.out,hv]) (w3.alloc (.cells #[.string vt] 9)) ((HM2.out.trans hm).alloc (by omega) _));clear hm hv HBad HOk hwe x0 x1 x2;go_wp2_with fail;go_ret;exact⟨_,rfl,HB.out⟩
  ·have hsz3:=hm.below.size
   have HV:=zd hv;have HVs:=zd hvs;obtain⟨p0,p1,p2⟩:=HX2.out w3 hm;have hal4:Below w3.heap.size w3 (w3.alloc (.cells #[.string vt] 9)):=(Below.refl _ _).alloc (Nat.le_refl _) _;have hm4:Moved B w (w3.alloc (.cells #[.string vt] 9)):=(HM2.out.trans hm).trans (Moved.of_below hal4 (by omega));have hr4:=zS hr hal4;have hw4:∃w4,w3.alloc (.cells #[.string vt] 9)=w4/\FBox B w.heap.size (w.heap.size+1) w1.heap.size w3.heap.size g lb t vt w4/\w4.heap.size=w3.heap.size+1:=
    ⟨_,rfl,⟨(World.cell?_alloc_old _ _ _ (by show w.heap.size≠_; omega)).trans p0,(World.cell?_alloc_old _ _ _ (by show w.heap.size+1≠_; omega)).trans p1,(World.cell?_alloc_old _ _ _ (by show w1.heap.size≠_; omega)).trans p2,World.cell?_alloc_at _ _ _ _ rfl,by omega,by omega,by omega,by omega⟩,by simp⟩
   obtain⟨w4,hwf,hbx,hs4⟩:=hw4;rw[hwf] at hm4 hr4;have HM4:=zd hm4;have HR4:=zd hr4;have HBx:=zd hbx;have c0:=hbx.r;clear hm hv hr hvs hal4 hm4 hr4 p0 p1 p2 x0 x1 x2 hwe HX2 HR2 hbx;go_wp2_with fail
   try rw[hwf]
   refine (qh B l j ⟨#[40]⟩ _ HR4.out).mono ?_;rintro e w5 ⟨rfl,q1,q2⟩;have HN5:=zd q2;have HM5:=zd (HM4.out.trans q2);have hsz5:=q2.below.size
   cases hs:sgn l j [40]
   ·have hs':sgn l j (ByteArray.mk #[40]).data.toList=false:=hs
    have HB:=zd (HBad.out 4 (by unfold kH; simp only[HI.out,HV.out,hs]; rfl) w5 HM5.out)
    try rw[hs']
    clear q1 q2 hs hs' HBad HOk hwf c0;go_wp2_with fail;go_ret;exact⟨_,rfl,HB.out⟩
   ·have hs':sgn l j (ByteArray.mk #[40]).data.toList=true:=hs
    rw[hs'] at q1;have q1':zv B l (j+1) w5:=q1;have cP:=zb0 B l (j+1) w5 170 #[.pointer (some ⟨w.heap.size,0,none⟩),.pointer (some ⟨w.heap.size+1,0,none⟩),.pointer (some ⟨w1.heap.size,0,none⟩),.pointer (some ⟨w3.heap.size,0,none⟩)] (enters_of Tryz.func170 (by kernel_rfl) rfl) R q1'
     (fun e he w' hm'=>HBad.out e (by unfold kH; simp only[HI.out,HV.out,hs,he]; rfl) w' (HM5.out.trans hm'))
     (fun ps j1 hp w' v hm' hr' hv=>by
      obtain⟨vp1,vp2,vp3,rfl⟩:=hv.slice;have hsz':=hm'.below.size;have hm6:=HM5.out.trans hm';exact zeu B l j1 w.heap.size g lb HEg.out R _ _ _ _ t vt ps vp1 vp2 vp3 w' hr' hlt (by omega) (HBx.out.keep (HN5.out.trans hm')) HTs.out HVs.out
       (zP ⟨fun _ _=>rfl,fun b hb=>⟨by have:=hb.1; omega,hb.2⟩⟩ hv)
       (fun h1 w'' hm''=>HBad.out 4 (by unfold kH; simp only[HI.out,HV.out,hs,hp,h1]; rfl) w'' (hm6.trans hm''))
       (fun h1 e he w'' hm''=>HBad.out e (by unfold kH; simp only[HI.out,HV.out,hs,hp,h1,he]; rfl) w'' (hm6.trans hm''))
       (fun h1 ty j2 hty h2 w'' hm''=>HBad.out 4 (by unfold kH; simp only[HI.out,HV.out,hs,hp,h1,hty,h2]; rfl) w'' (hm6.trans hm''))
       (fun h1 ty j2 hty h2 e he w'' hm''=>HBad.out e (by unfold kH; simp only[HI.out,HV.out,hs,hp,h1,hty,h2,he]; rfl) w'' (hm6.trans hm''))
       (fun h1 ty j2 hty h2 x j' hx w'' v' hm'' hr'' hv'=>HOk.out _ j' (by unfold kH; simp only[HI.out,HV.out,hs,hp,h1,hty,h2,hx]; rfl) w'' v' (hm6.trans hm'') hr'' hv'))
    have HCP:=zd cP;have c5:=(HBx.out.keep HN5.out).r
    try rw[hs']
    clear q1 q1' q2 hs hs' HBad HOk hwf c0 cP;go_wp2_with fail;refine HCP.out.mono ?_;rintro e w' ⟨y,rfl,hy⟩;have HY:=zd hy;clear hy;go_wp2_with fail;go_ret;exact⟨_,rfl,HY.out⟩
def zf4:List UInt8:=[61,40,41,91,93,44,43,46,58,60,62]
def XD (s:ByteArray):Bool:=match s.data.toList with
 |[b]=>zf4.contains b
 |_=>false
theorem J4 (s:ByteArray) (c:Int) (w:World) :
  Calls Tryz.prog 226 #[.string s,.int .u8 c] w fun e w'=>e=.returned (.int .i64 (Lib.indexByte s.data.toList c.toNat.toUInt8))/\w=w':=by
 go_enter Tryz.func226,Tryz.ntmps226
 go_wp2
 rw[run_callFunc_extern Tryz.func280 (by kernel_rfl) (by kernel_rfl) (by kernel_rfl) (e:=Extern.BytealgIndexByte.indexByte) (by kernel_rfl),Lib.run_indexByteString];simp only[Result.andThen];rw[Oper.upon_value]
 go_wp2
 go_ret;exact⟨rfl,rfl⟩
theorem zau (s:ByteArray) (c:Int) (w:World) :
  Calls Tryz.prog 155 #[.string s,.int .u8 c] w fun e w'=>e=.returned (.int .i64 (Lib.indexByte s.data.toList c.toNat.toUInt8))/\w=w':=by
 go_enter Tryz.func155,Tryz.ntmps155;go_wp2_with (go_at_call 226; refine (J4 _ _ _).mono ?_; rintro e w' ⟨rfl,rfl⟩);go_ret;exact⟨rfl,rfl⟩
theorem zf5 (s:ByteArray) (h:s.size=1) (hp:0<s.size):XD s=decide ((0:Int)<=Lib.indexByte [61,40,41,91,93,44,43,46,58,60,62] (s[0]'hp)):=by
 obtain⟨⟨l⟩⟩:=s;have hl:l.length=1:=h
 match l,hl with
 |[b],_=>
  rw[<- Lib.contains_iff_indexByte]
  rfl
theorem zev (s:ByteArray) (h:s.size≠1):XD s=false:=by
 obtain⟨⟨l⟩⟩:=s;have hl:l.length≠1:=h
 match l,hl with
 |[],_=>rfl
 |[b],hl=>exact absurd rfl hl
 |a::b::l,_=>rfl
theorem zf6 (s:ByteArray) (w:World):Calls Tryz.prog 237 #[.string s] w fun e w'=>e=.returned (.bool (XD s))/\w=w':=by
 by_cases h:s.size=1
 ·have h':(((s.size:Nat):Int)==1)=true:=by simp[h]
  have hpos:0<s.size:=by omega
  have HF:=zd (zf5 s h hpos);clear h;go_enter Tryz.func237,Tryz.ntmps237;go_wp2_with (go_at_call 155; refine (zau _ _ _).mono ?_; rintro e w' ⟨rfl,rfl⟩);go_ret;exact⟨by rw[HF.out]; rfl,rfl⟩
 ·have h':(((s.size:Nat):Int)==1)=false:=by rw[beq_eq_false_iff_ne]; omega
  have HF:=zd (zev s h);clear h;go_enter Tryz.func237,Tryz.ntmps237
  go_wp2
  go_ret;exact⟨by rw[HF.out]; rfl,rfl⟩
def Vj (k:Int) (t:ByteArray):Bool:=if k=1 then vG t else if k=2 then jr t else if k=3 then yk t else XD t
def xm (k:Int) (t:ByteArray):Int:=if 1<=k/\k<=4 then (if Vj k t=true then 0 else 4) else 3
theorem YF (k:Int) (t:ByteArray) (ht:t.size<=maxLen) (w:World) :
  Calls Tryz.prog 162 #[.agg #[.int .i64 k,.string t]] w fun e w'=>e=.returned (.int .i64 (xm k t))/\Below w.heap.size w w':=by
 have hb0:Below w.heap.size w (w.alloc (.cells #[.int .i64 k,.string t] 179)):=(Below.refl _ _).alloc (Nat.le_refl _) _;have HB:=zd hb0;clear hb0
 by_cases h1:k=1
 ·subst h1
  cases h:vG t
  all_goals
   have HF:=zd (show xm 1 t=_ by simp[xm,Vj,h]; rfl);go_enter Tryz.func162,Tryz.ntmps162;go_wp2_with (go_at_call 153; refine (zaR t ht _).mono ?_; rintro e w' ⟨rfl,hb⟩);go_ret;exact⟨by rw[HF.out]; rfl,HB.out.trans (hb.mono (by simp))⟩
 by_cases h2:k=2
 ·subst h2
  cases h:jr t
  all_goals
   have HF:=zd (show xm 2 t=_ by simp[xm,Vj,h]; rfl);go_enter Tryz.func162,Tryz.ntmps162;go_wp2_with (go_at_call 235; refine (zda t ht _).mono ?_; rintro e w' ⟨rfl,hb⟩);go_ret;exact⟨by rw[HF.out]; rfl,HB.out.trans (hb.mono (by simp))⟩
 by_cases h3:k=3
 ·subst h3
  cases h:yk t
  all_goals
   have HF:=zd (show xm 3 t=_ by simp[xm,Vj,h]; rfl);go_enter Tryz.func162,Tryz.ntmps162;go_wp2_with (go_at_call 236; refine (QK t ht _).mono ?_; rintro e w' ⟨rfl,hb⟩);go_ret;exact⟨by rw[HF.out]; rfl,HB.out.trans (hb.mono (by simp))⟩
 by_cases h4:k=4
 ·subst h4
  cases h:XD t
  all_goals
   have HF:=zd (show xm 4 t=_ by simp[xm,Vj,h]; rfl);go_enter Tryz.func162,Tryz.ntmps162;go_wp2_with (go_at_call 237; refine (zf6 t _).mono ?_; rintro e w' ⟨rfl,rfl⟩);go_ret;exact⟨by rw[HF.out]; rfl,HB.out⟩
 ·have HF:=zd (show xm k t=3 by simp[xm]; omega)
  have h1':(k==1)=false:=beq_eq_false_iff_ne.2 h1;have h2':(k==2)=false:=beq_eq_false_iff_ne.2 h2;have h3':(k==3)=false:=beq_eq_false_iff_ne.2 h3;have h4':(k==4)=false:=beq_eq_false_iff_ne.2 h4;clear h1 h2 h3 h4;go_enter Tryz.func162,Tryz.ntmps162
  go_wp2
  go_ret;exact⟨by rw[HF.out]; rfl,HB.out⟩
def QQ (w:World) (v:Value) (l:List (Int×ByteArray)):Prop:=
 (l=[]/\∃a cap,v=.slice a 0 cap)\/
 ∃b off cap,v=.slice (some ⟨b,off,none⟩) l.length cap/\b<w.heap.size/\l.length<=maxLen/\
  ∀i,i<l.length->w.cell? ⟨b,off+i * 2,none⟩=some (.int .i64 (l.getD i (0,.empty)).1)/\w.cell? ⟨b,off+i * 2+1,none⟩=some (.string (l.getD i (0,.empty)).2)/\(l.getD i (0,.empty)).2.size<=maxLen
def yp (t:Int×ByteArray):Int:=xm t.1 t.2
theorem QQ.later {w w':World} {v:Value} {l:List (Int×ByteArray)} (h:QQ w v l) (hb:Below w.heap.size w w'):QQ w' v l:=by
 rcases h with h|⟨b,off,cap,rfl,hbw,hl,hcell⟩
 ·exact Or.inl h
 ·exact Or.inr ⟨b,off,cap,rfl,Nat.lt_of_lt_of_le hbw hb.size,hl,fun i hi=>
   ⟨(hb.cell (by exact hbw)).trans (hcell i hi).1,(hb.cell (by exact hbw)).trans (hcell i hi).2.1,(hcell i hi).2.2⟩⟩
end Go.Proofs.YtedpiamfpbdhoaaGreatDoor
