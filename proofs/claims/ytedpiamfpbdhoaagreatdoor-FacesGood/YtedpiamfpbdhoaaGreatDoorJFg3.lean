import Derived.Test.YtedpiamfpbdhoaaGreatDoorJFg2
set_option maxHeartbeats 40000000
set_option maxRecDepth 100000
namespace Go.Proofs.YtedpiamfpbdhoaaGreatDoor
open Go.RowKit
theorem QN:(Tryz.prog.info? 70).map (·.size)=some 5:=by kernel_rfl
def ExC (S:Nat->Prop) (W:World) (x:Ex) (cs:List Value):Prop:=∃k n f s va1 va2 va3,cs=[.int .i64 k,.int .i64 n,.string f,.string s,.slice va1 va2 va3]/\xP S W x k n f s (.slice va1 va2 va3)
theorem vT {S S':Nat->Prop} {W W':World} {x:Ex} {cs:List Value} (hk:Keeps S S' W W') (h:ExC S W x cs):ExC S' W' x cs:=by
 obtain⟨k,n,f,s,va1,va2,va3,rfl,h⟩:=h;exact⟨k,n,f,s,va1,va2,va3,rfl,h.keep hk⟩
theorem zek {S:Nat->Prop} {W:World} {x:Ex} {cs:List Value} {b o:Nat} (_:cs.length=5) (h:ExC S W x cs) (hc:∀t u,cs[t]? = some u->W.cell? ⟨b,o+t,none⟩=some u):yB S W x b o:=by
 obtain⟨k,n,f,s,va1,va2,va3,rfl,h⟩:=h;exact qU.2 ⟨k,n,f,s,_,hc 0 _ rfl,hc 1 _ rfl,hc 2 _ rfl,hc 3 _ rfl,hc 4 _ rfl,h⟩
structure LBox (B bl base c:Nat) (v:Value) (W:World):Prop where
 cell:W.cell? ⟨c,0,none⟩=some v
 lo:B<c
 hi:c<base
 ne:c≠bl
theorem LBox.later {B bl base c:Nat} {v:Value} {Wb W:World} (h:LBox B bl base c v Wb) (hk:Kept B bl base Wb W):W.cell? ⟨c,0,none⟩=some v:=(hk.cell h.lo h.hi h.ne 0).trans h.cell
def yR {α:Type} (sub:Nat->Res α) (l:zB) (fin:List UInt8) (n:Nat) (xs:List α) (x:α) (i:Nat):Res (List α):=
 if sgn l i [44]=true then qZ sub l fin n (xs++[x]) (i+1) else if sgn l i fin=true then .ok (xs++[x]) (i+1) else .bad 4
theorem Xb {α:Type} {sub:Nat->Res α} {l:zB} {fin:List UInt8} {n:Nat} {acc:List α} {i:Nat} {e:Int} (h:sub i=.bad e):qZ sub l fin (n+1) acc i=.bad e:=by rw[qZ,h]
theorem j5 {α:Type} {sub:Nat->Res α} {l:zB} {fin:List UInt8} {n:Nat} {acc:List α} {i:Nat} {x:α} {j:Nat} (h:sub i=.ok x j):qZ sub l fin (n+1) acc i=yR sub l fin n acc x j:=by rw[qZ,h]; rfl
theorem Ky (bl br bo bn be bk base:Nat) (la:Option Addr) (lcap m:Nat) (xs:List Value) (k n:Int) (f s:ByteArray) (va1:Option Addr) (va2 va3:Nat) (W:World)
  (B:Nat) (l:zB) (i:Nat) (fin:ByteArray) (g1 g:Nat) (lb1 lb:Array Value) (e1:∀args w,(callFunc g1 args).run Tryz.prog w=.ok (.enter g1 args) w) (eg:∀args w,(callFunc g args).run Tryz.prog w=.ok (.enter g args) w) (R:Int->World->Prop) (Wb:World) (caps:Array Value)
  (hl:W.heap[bl]? = some (.cells #[.slice la m lcap] 68 (0,0))) (hown:W.ownsRow base 70 5 (.slice la m lcap) m xs) (hbase:base<=W.heap.size) (hbl:bl<base)
  (hn:m+1<=maxLen) (hb:(m+1) * 72<=140737488355328) (hB:B<bl) (hr:zv B l i W) (hkept:Kept B bl base Wb W)
  (xr:LBox B bl base br (.pointer (some ⟨B,0,none⟩)) Wb) (xo:LBox B bl base bo (.func (.func g1) #[] lb1) Wb) (xn:LBox B bl base bn (.func (.func 339) #[] caps) Wb) (xe:LBox B bl base be (.string fin) Wb) (xk:LBox B bl base bk (.func (.func g) #[] lb) Wb)
  (hcomma:sgn l i [44]=true->∀g' cap' w w',Grew base bl 70 68 (.slice la m lcap) (.slice (some ⟨g',0,none⟩) (m+1) cap') (m+1) (xs++[.int .i64 k,.int .i64 n,.string f,.string s,.slice va1 va2 va3]) W w->Moved B w w'->zv B l (i+1) w'->Calls Tryz.prog g1 (#[.func (.func 339) #[] caps]++lb1) w' (zQ R))
  (hfin:sgn l i [44]=false->sgn l i fin.data.toList=true->∀g' cap' w w',Grew base bl 70 68 (.slice la m lcap) (.slice (some ⟨g',0,none⟩) (m+1) cap') (m+1) (xs++[.int .i64 k,.int .i64 n,.string f,.string s,.slice va1 va2 va3]) W w->Moved B w w'->zv B l (i+1) w'->Calls Tryz.prog g (#[.slice (some ⟨g',0,none⟩) (m+1) cap']++lb) w' (zQ R))
  (hno:sgn l i [44]=false->sgn l i fin.data.toList=false->∀g' cap' w w',Grew base bl 70 68 (.slice la m lcap) (.slice (some ⟨g',0,none⟩) (m+1) cap') (m+1) (xs++[.int .i64 k,.int .i64 n,.string f,.string s,.slice va1 va2 va3]) W w->Moved B w w'->R 4 w') :
  Calls Tryz.prog 339 #[.agg #[.int .i64 k,.int .i64 n,.string f,.string s,.slice va1 va2 va3],.pointer (some ⟨bl,0,none⟩),.pointer (some ⟨br,0,none⟩),.pointer (some ⟨bo,0,none⟩),.pointer (some ⟨bn,0,none⟩),.pointer (some ⟨be,0,none⟩),.pointer (some ⟨bk,0,none⟩)] W (zQ R):=by
 have HC:=zd hcomma;have HF0:=zd hfin;have HN0:=zd hno;have HKp:=zd hkept;have HRd:=zd hr;have HXr:=zd xr;have HXo:=zd xo;have HXn:=zd xn;have HXe:=zd xe;have HXk:=zd xk;have HE1:=zd e1;have HEg:=zd eg;have HB0:=zd hB;clear hcomma hfin hno hkept hr xr xo xn xe xk e1 eg hB;obtain⟨i0,hi0,hz0,hz1,hz2⟩:=info_parts zcB;have HI0:=zd hi0;have HZ0:=zd hz0;have HZ1:=zd hz1;have HZ2:=zd hz2;have HL:=zd hl;have HOwn:=zd hown;have HBase:=zd hbase;have HBl:=zd hbl;have HNl:=zd hn;have HBy:=zd hb;clear hl hown hbase hbl hn hb hi0 hz0 hz1 hz2;have m0:(0:Int)<=(m:Int):=Int.natCast_nonneg _;have m2:(m:Int)<(m:Int)+1:=by omega
 have m1:(m:Int)<((m+1:Nat):Int):=by omega
 go_enter Tryz.func339,Tryz.ntmps339;go_wp2_with fail;refine Code.wp_mono (Q:=Zn fun a w=>∃g cap,a={ tmps:=#[.agg #[.int .i64 k,.int .i64 n,.string f,.string s,.slice va1 va2 va3],.pointer (some ⟨bl,0,none⟩),.pointer (some ⟨br,0,none⟩),.pointer (some ⟨bo,0,none⟩),.pointer (some ⟨bn,0,none⟩),.pointer (some ⟨be,0,none⟩),.pointer (some ⟨bk,0,none⟩),.pointer (some ⟨W.heap.size,0,none⟩),.int .i64 0,.slice la m lcap,.agg #[.int .i64 k,.int .i64 n,.string f,.string s,.slice va1 va2 va3],.int .i64 m,.slice (some ⟨W.heap.size+1,0,none⟩) 1 1,.slice (some ⟨g,0,none⟩) (m+1) cap,.pointer (some ⟨g,m * 5,none⟩),undef,undef,undef,undef,undef,undef,undef,undef,undef,undef,undef,undef,undef],defers:=[] }/\
   Grew base bl 70 68 (.slice la m lcap) (.slice (some ⟨g,0,none⟩) (m+1) cap) (m+1) (xs++[.int .i64 k,.int .i64 n,.string f,.string s,.slice va1 va2 va3]) W w) ?imp ?reg
 case imp=>
  intro e a w h
  cases e with
  |normal=>
   obtain⟨g',cap',rfl,hG⟩:=h;have HG:=zd hG;have HR1:=zd (zcF HRd.out hG HOwn.out HB0.out HBl.out);have hk1:=HKp.out.grew hG HOwn.out HB0.out HBl.out;have HK1:=zd hk1;have cr:=HXr.out.later hk1;have HBox:Hid (w.cell? ⟨bl,0,none⟩=some (.slice (some ⟨g',0,none⟩) (m+1) cap')):=by
    show _=_;rw[cell_of_row w bl 0 _ _ _ hG.box]; rfl
   have HBlW:=zd (vQ hG.box);clear hG hk1;go_wp2_with fail;refine (qh B l i ⟨#[44]⟩ _ HR1.out).mono ?_;rintro e w2 ⟨rfl,q1,q2⟩;have HM2:=zd q2;have hk2:=HK1.out.moved q2;have HK2:=zd hk2
   cases hc:sgn l i [44]
   ·have hc':sgn l i (ByteArray.mk #[44]).data.toList=false:=hc
    rw[hc'] at q1;have HR2:Hid (zv B l i w2):=q1;have HC0:=zd hc;have cr2:=HXr.out.later hk2;have ce2:=HXe.out.later hk2
    try rw[hc']
    clear q1 q2 hc hc' hk2 cr;go_wp2_with fail;refine (qh B l i fin _ HR2.out).mono ?_;rintro e w3 ⟨rfl,q1,q2⟩;have HM3:=zd (HM2.out.trans q2);have hk3:=HK2.out.moved q2
    cases hf:sgn l i fin.data.toList
    ·have HRes:=zd (HN0.out HC0.out hf g' cap' w w3 HG.out HM3.out)
     try rw[hf]
     clear q1 q2 hf hk3 cr2 ce2;go_wp2_with fail;go_ret;exact⟨_,rfl,HRes.out⟩
    ·rw[hf] at q1
     have q1':zv B l (i+1) w3:=q1;have HRes:=zd (HF0.out HC0.out hf g' cap' w w3 HG.out HM3.out q1');have ck3:=HXk.out.later hk3;have cl3:w3.cell? ⟨bl,0,none⟩=some (.slice (some ⟨g',0,none⟩) (m+1) cap'):=(HM3.out.cell HB0.out HBlW.out 0).trans HBox.out;have eg:=HEg.out
     try rw[hf]
     clear q1 q1' q2 hf hk3 cr2 ce2;go_wp2_with fail;refine HRes.out.mono ?_;rintro e w' ⟨y,rfl,hy⟩;have HY:=zd hy;clear hy;go_wp2_with fail;go_ret;exact⟨_,rfl,HY.out⟩
   ·have hc':sgn l i (ByteArray.mk #[44]).data.toList=true:=hc
    rw[hc'] at q1;have q1':zv B l (i+1) w2:=q1;have HRes:=zd (HC.out hc g' cap' w w2 HG.out HM2.out q1');have co:=HXo.out.later hk2;have cn:=HXn.out.later hk2;have e1:=HE1.out
    try rw[hc']
    clear q1 q1' q2 hc hc' hk2 cr;go_wp2_with fail;refine HRes.out.mono ?_;rintro e w' ⟨y,rfl,hy⟩;have HY:=zd hy;clear hy;go_wp2_with fail;go_ret;exact⟨_,rfl,HY.out⟩
  |_=>exact h.elim
 case reg=>
  have hblW:bl<W.heap.size:=Nat.lt_of_lt_of_le HBl.out HBase.out;have hcl:(W.alloc (.cells #[.int .i64 k,.int .i64 n,.string f,.string s,.slice va1 va2 va3] 70)).drew.cell? ⟨bl,0,none⟩=some (.slice la m lcap):=by
   show (W.alloc _).cell? _=_;rw[World.cell?_alloc_old _ _ _ (by show bl≠_; omega),cell_of_row W bl 0 _ _ _ HL.out]; rfl
  have hcl2:((W.alloc (.cells #[.int .i64 k,.int .i64 n,.string f,.string s,.slice va1 va2 va3] 70)).alloc (.cells #[.int .i64 0,.int .i64 0,.string ⟨#[]⟩,.string ⟨#[]⟩,.slice none 0 0] 70)).drew.cell? ⟨bl,0,none⟩=some (.slice la m lcap):=by
   show ((W.alloc _).alloc _).cell? _=_;rw[World.cell?_alloc_old _ _ _ (by show bl≠_; simp; omega)];exact hcl
  have hx1:(W.alloc (.cells #[.int .i64 k,.int .i64 n,.string f,.string s,.slice va1 va2 va3] 70)).rangeAt W.heap.size 0 [.int .i64 k,.int .i64 n,.string f,.string s,.slice va1 va2 va3]:=by
   intro j u hu;rw[Nat.zero_add,World.cell?_alloc_new];simpa using hu
  have HX1:=zd ((World.rangeAt_drew _ _ _ _).2 hx1);have HX2:=zd ((World.rangeAt_drew _ _ _ _).2 (World.rangeAt_alloc hx1 (.cells #[.int .i64 0,.int .i64 0,.string ⟨#[]⟩,.string ⟨#[]⟩,.slice none 0 0] 70)));clear hx1;have HNews:Hid (∀j u,([.int .i64 0,.int .i64 0,.string ⟨#[]⟩,.string ⟨#[]⟩,.slice none 0 0]:List Value)[j]? = some u->((W.alloc (.cells #[.int .i64 k,.int .i64 n,.string f,.string s,.slice va1 va2 va3] 70)).alloc (.cells #[.int .i64 0,.int .i64 0,.string ⟨#[]⟩,.string ⟨#[]⟩,.slice none 0 0] 70)).drew.cell? ((⟨W.heap.size+1,0,none⟩:Addr).add j)=some u):=by
   refine World.news_of_block (cs:=#[.int .i64 0,.int .i64 0,.string ⟨#[]⟩,.string ⟨#[]⟩,.slice none 0 0]) (t:=70) (fr:=(0,0)) ?_;have h:=heap_alloc_new (W.alloc (.cells #[.int .i64 k,.int .i64 n,.string f,.string s,.slice va1 va2 va3] 70)) (.cells #[.int .i64 0,.int .i64 0,.string ⟨#[]⟩,.string ⟨#[]⟩,.slice none 0 0] 70);rw[show (W.alloc (.cells #[.int .i64 k,.int .i64 n,.string f,.string s,.slice va1 va2 va3] 70)).heap.size=W.heap.size+1 by simp] at h;exact h
  have HOne:Hid (∀u∈([.int .i64 0,.int .i64 0,.string ⟨#[]⟩,.string ⟨#[]⟩,.slice none 0 0]:List Value),u.oneCell'=true):=by intro u hu; simp at hu; rcases hu with rfl|rfl|rfl <;> rfl
  have HBs:Hid (base<=((W.alloc (.cells #[.int .i64 k,.int .i64 n,.string f,.string s,.slice va1 va2 va3] 70)).alloc (.cells #[.int .i64 0,.int .i64 0,.string ⟨#[]⟩,.string ⟨#[]⟩,.slice none 0 0] 70)).drew.heap.size):=by
   show base<=((W.alloc _).alloc _).heap.size;have:=HBase.out;simp; omega
  have HH:Hid (((W.alloc (.cells #[.int .i64 k,.int .i64 n,.string f,.string s,.slice va1 va2 va3] 70)).alloc (.cells #[.int .i64 0,.int .i64 0,.string ⟨#[]⟩,.string ⟨#[]⟩,.slice none 0 0] 70)).drew.heap.size=W.heap.size+2):=by
   show ((W.alloc _).alloc _).heap.size=_;simp
  have HS1:Hid (∀w1,((W.alloc (.cells #[.int .i64 k,.int .i64 n,.string f,.string s,.slice va1 va2 va3] 70)).alloc (.cells #[.int .i64 0,.int .i64 0,.string ⟨#[]⟩,.string ⟨#[]⟩,.slice none 0 0] 70)).drew.grownBy w1 (Value.slice la m lcap).ownBlock->w1.rangeAt W.heap.size 0 [.int .i64 k,.int .i64 n,.string f,.string s,.slice va1 va2 va3]):=by
   intro w1 hg j u hu;rw[hg.cell_far _ (by rw[HH.out]; show W.heap.size<_; omega) (fun h=>by have:=zk HOwn.out _ h.symm; have h2:W.heap.size<W.heap.size:=this.2; omega)];exact HX2.out j u hu
  have HOnX:Hid ((#[.int .i64 k,.int .i64 n,.string f,.string s,.slice va1 va2 va3]:Array Value).all (·.oneCell')=true):=by show _=_; simp[Value.oneCell']
  have HFar:Hid (∀g,((Value.slice la m lcap).ownBlock=some g\/g=W.heap.size+2)->bl≠g/\W.heap.size≠g):=by
   intro g h;have h1:=HBl.out
   rcases h with h|h
   ·have:=zk HOwn.out _ h; omega
   ·omega
  have HFarB:Hid (some bl≠(Value.slice la m lcap).ownBlock):=fun h=>by have:=zk HOwn.out _ h.symm; have:=HBl.out; omega
  have HOld:Hid (∀k',k'<W.heap.size->((W.alloc (.cells #[.int .i64 k,.int .i64 n,.string f,.string s,.slice va1 va2 va3] 70)).alloc (.cells #[.int .i64 0,.int .i64 0,.string ⟨#[]⟩,.string ⟨#[]⟩,.slice none 0 0] 70)).drew.heap[k']? = W.heap[k']?):=by
   intro k' hk';show ((W.alloc _).alloc _).heap[k']? = _;rw[heap_alloc_old _ _ (by simp; omega),heap_alloc_old _ _ (by omega)]
  have HFB:Hid (((W.alloc (.cells #[.int .i64 k,.int .i64 n,.string f,.string s,.slice va1 va2 va3] 70)).alloc (.cells #[.int .i64 0,.int .i64 0,.string ⟨#[]⟩,.string ⟨#[]⟩,.slice none 0 0] 70)).drew.frozen? ⟨bl,0,none⟩=false):=by
   show World.frozen? _ _=false;refine Lib.frozen_of_heap (T:=68) (cs:=#[.slice la m lcap]) ?_ 0;exact (HOld.out bl hblW).trans HL.out
  refine wp_region_held_drew (S:=fun w'=>w'.rangeAt W.heap.size 0 [.int .i64 k,.int .i64 n,.string f,.string s,.slice va1 va2 va3]) (by kernel_rfl) HX1.out (fun hHeld=>?_);refine zh 1 rfl rfl (by kernel_rfl) (by kernel_rfl) (by kernel_rfl) (fun _ _ _ h=>h) (yieldsIf_load_mid (by rfl) _ _ rfl _ _ rfl [.int .i64 k,.int .i64 n,.string f,.string s,.slice va1 va2 va3] _ (fun _ h=>h) Tryz.underlying70 rfl QN) hHeld ?_;refine xz 0 3 (by kernel_rfl) rfl rfl rfl rfl (fun K hK=>?_) (fun K hK=>?_)
  ·have HK:=zd hK
   clear hK
   go_simp
   refine HK.out _ _ HX1.out ?_;clear HK K;refine zh 2 rfl rfl (by kernel_rfl) (by kernel_rfl) (by kernel_rfl) (fun _ _ _ h=>h) (v:=.int .i64 m) (Or.inl ⟨by rfl,fun w _=>by go_simp⟩) HX1.out ?_;refine zg 3 (by kernel_rfl) rfl rfl (fun K hK=>?_);have HK:=zd hK;clear hK
   go_simp
   refine HK.out _ _ HX2.out ?_;clear HK K;refine zg 4 (by kernel_rfl) rfl rfl (fun K hK=>?_);refine wp_append_lies _ _ _ _ rfl base 70 i0 _ 5 72 Tryz.underlying68 HI0.out HZ0.out HZ1.out HZ2.out rfl (by omega) (.slice la m lcap) m xs rfl (((HOwn.out.alloc _).alloc _).drew) ⟨W.heap.size+1,0,none⟩ 1 1 [.int .i64 0,.int .i64 0,.string ⟨#[]⟩,.string ⟨#[]⟩,.slice none 0 0] rfl rfl HNews.out HOne.out (by omega) HNl.out HBy.out HBs.out (W.heap.size+2) HH.out (fun g cap w1 hown1 hgrow hat hlt=>?_);have hS1:=HS1.out w1 hgrow;refine hK _ _ hS1 ?_;clear hK K;refine zh 5 rfl rfl (by kernel_rfl) (by kernel_rfl) (by kernel_rfl) (fun _ _ _ h=>h) (v:=.pointer (some ⟨g,m * 5,none⟩)) (Or.inl ⟨by rfl,fun w _=>by go_simp⟩) hS1 ?_;refine xz 6 7 (by kernel_rfl) rfl rfl rfl rfl (fun K hK=>?_) (fun K hK=>?_)
   ·refine wp_store_mid _ _ _ rfl g (m * 5) #[.int .i64 k,.int .i64 n,.string f,.string s,.slice va1 va2 va3] rfl rfl (Q9 hown1) QN HOnX.out ?_
    have HF:=zd (HFar.out g hat);have hc2:(w1.setCells g (m * 5) [.int .i64 k,.int .i64 n,.string f,.string s,.slice va1 va2 va3]).cell? ⟨bl,0,none⟩=some (.slice la m lcap):=by
     rw[World.cell?_setCells_out _ _ _ _ _ (fun h=>absurd h HF.out.1)];exact (hgrow.cell_far ⟨bl,0,none⟩ (by rw[HH.out]; show bl<_; omega) (HFarB.out)).trans hcl2
    have hf2:(w1.setCells g (m * 5) [.int .i64 k,.int .i64 n,.string f,.string s,.slice va1 va2 va3]).frozen? ⟨bl,0,none⟩=false:=by
     rw[World.frozen?_setCells];exact (hgrow.frozen_far ⟨bl,0,none⟩ (by rw[HH.out]; show bl<_; omega) (HFarB.out)).trans HFB.out
    have hS2:(w1.setCells g (m * 5) [.int .i64 k,.int .i64 n,.string f,.string s,.slice va1 va2 va3]).rangeAt W.heap.size 0 [.int .i64 k,.int .i64 n,.string f,.string s,.slice va1 va2 va3]:=World.rangeAt_setCells_apart hS1 _ _ _ (Or.inl HF.out.2);have HG:Hid (Grew base bl 70 68 (.slice la m lcap) (.slice (some ⟨g,0,none⟩) (m+1) cap) (m+1) (xs++[.int .i64 k,.int .i64 n,.string f,.string s,.slice va1 va2 va3]) W ((w1.setCells g (m * 5) [.int .i64 k,.int .i64 n,.string f,.string s,.slice va1 va2 va3]).setCell ⟨bl,0,none⟩ (.slice (some ⟨g,0,none⟩) (m+1) cap))):=
     Zm (W0:=((W.alloc (.cells #[.int .i64 k,.int .i64 n,.string f,.string s,.slice va1 va2 va3] 70)).alloc (.cells #[.int .i64 0,.int .i64 0,.string ⟨#[]⟩,.string ⟨#[]⟩,.slice none 0 0] 70)).drew) HBl.out HBase.out (by rw[HH.out]; omega) rfl rfl rfl HOld.out (Vx hgrow (hat.imp_right (fun h=>by rw[HH.out]; omega)) hlt _ _) HL.out HFarB.out (J0 hown1 rfl rfl) (hat.imp_right (fun h=>by omega))
    refine hK _ _ hS2 ?_;clear hK K hgrow hown1 hcl hcl2 hS1;show wpAnyH _ _ _ _ _ _ _ _ (w1.setCells g (m * 5) [.int .i64 k,.int .i64 n,.string f,.string s,.slice va1 va2 va3]);generalize w1.setCells g (m * 5) [.int .i64 k,.int .i64 n,.string f,.string s,.slice va1 va2 va3]=w2 at *;refine zg 7 (by kernel_rfl) rfl rfl (fun K hK=>?_);have HK:=zd hK;clear hK
    go_simp
    refine HK.out _ _ (fun j u hu=>?_) (wpAnyH_done (by kernel_rfl) ⟨g,cap,rfl,HG.out⟩ _);rw[World.cell?_setCell_other _ _ _ _ (by intro h; injection h with h _ _; omega)];exact hS2 j u hu
   ·have HF:=zd (HFar.out g hat)
    have hc2:w1.cell? ⟨bl,0,none⟩=some (.slice la m lcap):=(hgrow.cell_far ⟨bl,0,none⟩ (by rw[HH.out]; show bl<_; omega) (HFarB.out)).trans hcl2;have hf2:w1.frozen? ⟨bl,0,none⟩=false:=(hgrow.frozen_far ⟨bl,0,none⟩ (by rw[HH.out]; show bl<_; omega) (HFarB.out)).trans HFB.out;have hg0:Grew base bl 70 68 (.slice la m lcap) (.slice (some ⟨g,0,none⟩) (m+1) cap) (m+1) (xs++[.int .i64 0,.int .i64 0,.string ⟨#[]⟩,.string ⟨#[]⟩,.slice none 0 0]) W (w1.setCell ⟨bl,0,none⟩ (.slice (some ⟨g,0,none⟩) (m+1) cap)):=
     Zm (W0:=((W.alloc (.cells #[.int .i64 k,.int .i64 n,.string f,.string s,.slice va1 va2 va3] 70)).alloc (.cells #[.int .i64 0,.int .i64 0,.string ⟨#[]⟩,.string ⟨#[]⟩,.slice none 0 0] 70)).drew) HBl.out HBase.out (by rw[HH.out]; omega) rfl rfl rfl HOld.out hgrow HL.out HFarB.out hown1 (hat.imp_right (fun h=>by omega))
    have HG:=zd (Grew.put (new:=[.int .i64 k,.int .i64 n,.string f,.string s,.slice va1 va2 va3]) hg0 HBl.out rfl rfl);have HT:=zd (Q9 hg0.own);have HS1:=zd hS1;have HK:=zd hK;clear hK hgrow hown1 hcl hcl2 hS1 hg0
    go_simp
    have hS2:(w1.setCell ⟨bl,0,none⟩ (.slice (some ⟨g,0,none⟩) (m+1) cap)).rangeAt W.heap.size 0 [.int .i64 k,.int .i64 n,.string f,.string s,.slice va1 va2 va3]:=fun j u hu=>by
     rw[World.cell?_setCell_other _ _ _ _ (by intro h; injection h with h _ _; omega)];exact HS1.out j u hu
    refine HK.out _ _ hS2 ?_;clear HK K;refine zg 6 (by kernel_rfl) rfl rfl (fun K hK=>?_);refine wp_store_mid _ _ _ rfl g (m * 5) #[.int .i64 k,.int .i64 n,.string f,.string s,.slice va1 va2 va3] rfl rfl HT.out QN HOnX.out ?_;refine hK _ _ ?_ (wpAnyH_done (by kernel_rfl) ⟨g,cap,rfl,HG.out⟩ _);exact World.rangeAt_setCells_apart hS2 _ _ _ (Or.inl HF.out.2)
  ·have HK:=zd hK
   clear hK
   go_simp
   refine HK.out _ _ HX2.out ?_;clear HK K;refine zg 0 (by kernel_rfl) rfl rfl (fun K hK=>?_);have HK:=zd hK;clear hK
   go_simp
   refine HK.out _ _ HX2.out ?_;clear HK K;refine zh 2 rfl rfl (by kernel_rfl) (by kernel_rfl) (by kernel_rfl) (fun _ _ _ h=>h) (v:=.int .i64 m) (Or.inl ⟨by rfl,fun w _=>by go_simp⟩) HX2.out ?_;refine zg 4 (by kernel_rfl) rfl rfl (fun K hK=>?_);refine wp_append_lies _ _ _ _ rfl base 70 i0 _ 5 72 Tryz.underlying68 HI0.out HZ0.out HZ1.out HZ2.out rfl (by omega) (.slice la m lcap) m xs rfl (((HOwn.out.alloc _).alloc _).drew) ⟨W.heap.size+1,0,none⟩ 1 1 [.int .i64 0,.int .i64 0,.string ⟨#[]⟩,.string ⟨#[]⟩,.slice none 0 0] rfl rfl HNews.out HOne.out (by omega) HNl.out HBy.out HBs.out (W.heap.size+2) HH.out (fun g cap w1 hown1 hgrow hat hlt=>?_);have hS1:=HS1.out w1 hgrow;refine hK _ _ hS1 ?_;clear hK K;refine zh 5 rfl rfl (by kernel_rfl) (by kernel_rfl) (by kernel_rfl) (fun _ _ _ h=>h) (v:=.pointer (some ⟨g,m * 5,none⟩)) (Or.inl ⟨by rfl,fun w _=>by go_simp⟩) hS1 ?_;refine xz 6 7 (by kernel_rfl) rfl rfl rfl rfl (fun K hK=>?_) (fun K hK=>?_)
   ·refine wp_store_mid _ _ _ rfl g (m * 5) #[.int .i64 k,.int .i64 n,.string f,.string s,.slice va1 va2 va3] rfl rfl (Q9 hown1) QN HOnX.out ?_
    have HF:=zd (HFar.out g hat);have hc2:(w1.setCells g (m * 5) [.int .i64 k,.int .i64 n,.string f,.string s,.slice va1 va2 va3]).cell? ⟨bl,0,none⟩=some (.slice la m lcap):=by
     rw[World.cell?_setCells_out _ _ _ _ _ (fun h=>absurd h HF.out.1)];exact (hgrow.cell_far ⟨bl,0,none⟩ (by rw[HH.out]; show bl<_; omega) (HFarB.out)).trans hcl2
    have hf2:(w1.setCells g (m * 5) [.int .i64 k,.int .i64 n,.string f,.string s,.slice va1 va2 va3]).frozen? ⟨bl,0,none⟩=false:=by
     rw[World.frozen?_setCells];exact (hgrow.frozen_far ⟨bl,0,none⟩ (by rw[HH.out]; show bl<_; omega) (HFarB.out)).trans HFB.out
    have hS2:(w1.setCells g (m * 5) [.int .i64 k,.int .i64 n,.string f,.string s,.slice va1 va2 va3]).rangeAt W.heap.size 0 [.int .i64 k,.int .i64 n,.string f,.string s,.slice va1 va2 va3]:=World.rangeAt_setCells_apart hS1 _ _ _ (Or.inl HF.out.2);have HG:Hid (Grew base bl 70 68 (.slice la m lcap) (.slice (some ⟨g,0,none⟩) (m+1) cap) (m+1) (xs++[.int .i64 k,.int .i64 n,.string f,.string s,.slice va1 va2 va3]) W ((w1.setCells g (m * 5) [.int .i64 k,.int .i64 n,.string f,.string s,.slice va1 va2 va3]).setCell ⟨bl,0,none⟩ (.slice (some ⟨g,0,none⟩) (m+1) cap))):=
     Zm (W0:=((W.alloc (.cells #[.int .i64 k,.int .i64 n,.string f,.string s,.slice va1 va2 va3] 70)).alloc (.cells #[.int .i64 0,.int .i64 0,.string ⟨#[]⟩,.string ⟨#[]⟩,.slice none 0 0] 70)).drew) HBl.out HBase.out (by rw[HH.out]; omega) rfl rfl rfl HOld.out (Vx hgrow (hat.imp_right (fun h=>by rw[HH.out]; omega)) hlt _ _) HL.out HFarB.out (J0 hown1 rfl rfl) (hat.imp_right (fun h=>by omega))
    refine hK _ _ hS2 ?_;clear hK K hgrow hown1 hcl hcl2 hS1;show wpAnyH _ _ _ _ _ _ _ _ (w1.setCells g (m * 5) [.int .i64 k,.int .i64 n,.string f,.string s,.slice va1 va2 va3]);generalize w1.setCells g (m * 5) [.int .i64 k,.int .i64 n,.string f,.string s,.slice va1 va2 va3]=w2 at *;refine zg 7 (by kernel_rfl) rfl rfl (fun K hK=>?_);have HK:=zd hK;clear hK
    go_simp
    refine HK.out _ _ (fun j u hu=>?_) (wpAnyH_done (by kernel_rfl) ⟨g,cap,rfl,HG.out⟩ _);rw[World.cell?_setCell_other _ _ _ _ (by intro h; injection h with h _ _; omega)];exact hS2 j u hu
   ·have HF:=zd (HFar.out g hat)
    have hc2:w1.cell? ⟨bl,0,none⟩=some (.slice la m lcap):=(hgrow.cell_far ⟨bl,0,none⟩ (by rw[HH.out]; show bl<_; omega) (HFarB.out)).trans hcl2;have hf2:w1.frozen? ⟨bl,0,none⟩=false:=(hgrow.frozen_far ⟨bl,0,none⟩ (by rw[HH.out]; show bl<_; omega) (HFarB.out)).trans HFB.out;have hg0:Grew base bl 70 68 (.slice la m lcap) (.slice (some ⟨g,0,none⟩) (m+1) cap) (m+1) (xs++[.int .i64 0,.int .i64 0,.string ⟨#[]⟩,.string ⟨#[]⟩,.slice none 0 0]) W (w1.setCell ⟨bl,0,none⟩ (.slice (some ⟨g,0,none⟩) (m+1) cap)):=
     Zm (W0:=((W.alloc (.cells #[.int .i64 k,.int .i64 n,.string f,.string s,.slice va1 va2 va3] 70)).alloc (.cells #[.int .i64 0,.int .i64 0,.string ⟨#[]⟩,.string ⟨#[]⟩,.slice none 0 0] 70)).drew) HBl.out HBase.out (by rw[HH.out]; omega) rfl rfl rfl HOld.out hgrow HL.out HFarB.out hown1 (hat.imp_right (fun h=>by omega))
    have HG:=zd (Grew.put (new:=[.int .i64 k,.int .i64 n,.string f,.string s,.slice va1 va2 va3]) hg0 HBl.out rfl rfl);have HT:=zd (Q9 hg0.own);have HS1:=zd hS1;have HK:=zd hK;clear hK hgrow hown1 hcl hcl2 hS1 hg0
    go_simp
    have hS2:(w1.setCell ⟨bl,0,none⟩ (.slice (some ⟨g,0,none⟩) (m+1) cap)).rangeAt W.heap.size 0 [.int .i64 k,.int .i64 n,.string f,.string s,.slice va1 va2 va3]:=fun j u hu=>by
     rw[World.cell?_setCell_other _ _ _ _ (by intro h; injection h with h _ _; omega)];exact HS1.out j u hu
    refine HK.out _ _ hS2 ?_;clear HK K;refine zg 6 (by kernel_rfl) rfl rfl (fun K hK=>?_);refine wp_store_mid _ _ _ rfl g (m * 5) #[.int .i64 k,.int .i64 n,.string f,.string s,.slice va1 va2 va3] rfl rfl HT.out QN HOnX.out ?_;refine hK _ _ ?_ (wpAnyH_done (by kernel_rfl) ⟨g,cap,rfl,HG.out⟩ _);exact World.rangeAt_setCells_apart hS2 _ _ _ (Or.inl HF.out.2)
def zdd:Prop:=∀(B:Nat) (l:zB) (i:Nat) (s:ByteArray) (w:World) (g:Nat) (lb:Array Value),(∀args w,(callFunc g args).run Tryz.prog w=.ok (.enter g args) w)->∀(R:Int->World->Prop),zv B l i w->
  (∀e,qX l s.data.toList i=.bad e->∀w',Moved B w w'->R e w')->
  (∀x j,qX l s.data.toList i=.ok x j->∀w' v,Moved B w w'->zv B l j w'->XQ (zm w.heap.size w') w' x v->Calls Tryz.prog g (#[v]++lb) w' (zQ R))->
  Calls Tryz.prog 98 #[.pointer (some ⟨B,0,none⟩),.string s,.func (.func g) #[] lb] w (zQ R)
theorem zde (g:Nat) (lb:Array Value) (eg:∀args w,(callFunc g args).run Tryz.prog w=.ok (.enter g args) w) (R:Int->World->Prop) (bk bn:Nat) (nm:ByteArray) (k:Int) (f n:ByteArray) (va1:Option Addr) (va2 va3:Nat) (W:World)
  (hk:W.cell? ⟨bk,0,none⟩=some (.func (.func g) #[] lb)) (hn:W.cell? ⟨bn,0,none⟩=some (.string nm))
  (h:Calls Tryz.prog g (#[.agg #[.string nm,.int .i64 k,.string f,.string n,.slice va1 va2 va3]]++lb) (W.alloc (.cells #[.int .i64 k,.string f,.string n,.slice va1 va2 va3] 67)) (zQ R)) :
  Calls Tryz.prog 167 #[.agg #[.int .i64 k,.string f,.string n,.slice va1 va2 va3],.pointer (some ⟨bk,0,none⟩),.pointer (some ⟨bn,0,none⟩)] W (zQ R):=by
 have HK:=zd h;have hbk:bk<W.heap.size:=World.block_lt_of_cell? W _ hk;have hbn:bn<W.heap.size:=World.block_lt_of_cell? W _ hn;clear h;go_enter Tryz.func167,Tryz.ntmps167;go_wp2_with fail;refine HK.out.mono ?_;rintro e w' ⟨y,rfl,hy⟩;have HY:=zd hy;clear hy;go_wp2_with fail;go_ret;exact⟨_,rfl,HY.out⟩
theorem Jo:zdd:=by
 intro B l i s w g lb eg R hr hbad hok;have hlt:=xC hr;have hal:Below w.heap.size w (w.alloc (.cells #[.func (.func g) #[] lb] 138)):=(Below.refl _ _).alloc (Nat.le_refl _) _;have HM0:Hid (Moved B w (w.alloc (.cells #[.func (.func g) #[] lb] 138))):=Moved.of_below hal (by omega);have HR0:=zd (zS hr hal);have HBad:=zd hbad;have HOk:=zd hok;have HEg:=zd eg;have hef:=z8;clear hbad hok hr hal eg;go_enter Tryz.func98,Tryz.ntmps98;go_wp2_with fail;refine (km B l i _ HR0.out).mono ?_;rintro e w1 ⟨hm,⟨hi,t,i',rfl,hr⟩|⟨t,hi,hok,rfl,hr⟩⟩
 ·have hsz1:w.heap.size+1<=w1.heap.size:=by have:=hm.below.size; simpa using this
  have HB:=zd (HBad.out 4 (by unfold qX; rw[hi]) (w1.alloc (.cells #[.string t] 9)) ((HM0.out.trans hm).alloc (by omega) _));clear hm hi hr HBad HOk;go_wp2_with fail;go_ret;exact⟨_,rfl,HB.out⟩
 ·have hsz1:w.heap.size+1<=w1.heap.size:=by have:=hm.below.size; simpa using this
  have hP:qX l s.data.toList i=if sgn l (i+1) s.data.toList=true then (match pTy l 40 (i+2) with
    |.bad e=>.bad e
    |.ok ty j=>.ok ⟨t,ty⟩ j) else .bad 4:=by unfold qX; rw[hi]; rfl
  have HP:=zd hP;have hal2:Below w1.heap.size w1 (w1.alloc (.cells #[.string t] 9)):=(Below.refl _ _).alloc (Nat.le_refl _) _;have hts:=ZL hok;have HTs:=zd hts;have hck:w1.cell? ⟨w.heap.size,0,none⟩=some (.func (.func g) #[] lb):=(hm.cell (by omega) (by simp) 0).trans (World.cell?_alloc_at _ _ _ _ rfl);have hw2:∃w2,w1.alloc (.cells #[.string t] 9)=w2/\w2.cell? ⟨w.heap.size,0,none⟩=some (.func (.func g) #[] lb)/\w2.cell? ⟨w1.heap.size,0,none⟩=some (.string t)/\w2.heap.size=w1.heap.size+1:=
   ⟨_,rfl,(World.cell?_alloc_old _ _ _ (by show w.heap.size≠_; omega)).trans hck,World.cell?_alloc_at _ _ _ _ rfl,by simp⟩
  have HM2:Hid (Moved B w (w1.alloc (.cells #[.string t] 9))):=(HM0.out.trans hm).trans (Moved.of_below hal2 (by omega));have HR2:=zd (zS hr hal2);obtain⟨w2,hwe,x0,x1,hs2⟩:=hw2;rw[hwe] at HM2 HR2;have HX:=zd (show ∀W,Moved B w2 W->W.cell? ⟨w.heap.size,0,none⟩=some (.func (.func g) #[] lb)/\W.cell? ⟨w1.heap.size,0,none⟩=some (.string t) from fun W h=>⟨(h.cell (by omega) (by omega) 0).trans x0,(h.cell (by omega) (by omega) 0).trans x1⟩);clear hm hi hr hok hal2 hck hts hP;go_wp2_with fail
  try rw[hwe]
  refine (qh B l (i+1) s _ HR2.out).mono ?_;rintro e w3 ⟨rfl,q1,q2⟩;have HN3:=zd q2;have HM3:=zd (HM2.out.trans q2);have hsz3:=q2.below.size
  cases hs:sgn l (i+1) s.data.toList
  ·have HB:=zd (HBad.out 4 (by rw[HP.out,if_neg (by rw[hs]; simp)]) w3 HM3.out)
   try rw[hs]
   clear q1 q2 hs HBad HOk hwe x0 x1;go_wp2_with fail;go_ret;exact⟨_,rfl,HB.out⟩
  ·rw[hs] at q1
   have q1':zv B l (i+2) w3:=q1;have hP2:qX l s.data.toList i=match pTy l 40 (i+2) with
    |.bad e=>.bad e
    |.ok ty j=>.ok ⟨t,ty⟩ j:=by rw[HP.out,if_pos hs]
   have cT:=zaU 40 1 rfl B l (i+2) w3 167 #[.pointer (some ⟨w.heap.size,0,none⟩),.pointer (some ⟨w1.heap.size,0,none⟩)] (enters_of Tryz.func167 (by kernel_rfl) rfl) R q1'
    (fun e he w' hm'=>HBad.out e (by rw[hP2,he]) w' (HM3.out.trans hm'))
    (fun ty j hty w' v hm' hr' hv=>by
     obtain⟨k,f,n,va,rfl,hcs⟩:=hv;obtain⟨va1,va2,va3,rfl⟩:=hcs.slice;obtain⟨u0,u1⟩:=HX.out w' (HN3.out.trans hm');have hal3:Below w'.heap.size w' (w'.alloc (.cells #[.int .i64 k,.string f,.string n,.slice va1 va2 va3] 67)):=(Below.refl _ _).alloc (Nat.le_refl _) _;have hsz':=hm'.below.size;have hm3:Moved B w' (w'.alloc (.cells #[.int .i64 k,.string f,.string n,.slice va1 va2 va3] 67)):=Moved.of_below hal3 (by omega);refine zde g lb HEg.out R _ _ t k f n va1 va2 va3 w' u0 u1 ?_;refine HOk.out ⟨t,ty⟩ j (by rw[hP2,hty]) _ _ ((HM3.out.trans hm').trans hm3) (zS hr' hal3) ⟨k,f,n,_,rfl,HTs.out,?_⟩;exact hcs.keep ⟨fun b hb=>hm3.above b (by have:=hb.1; omega) hb.2,fun b hb=>⟨by have:=hb.1; omega,Nat.lt_of_lt_of_le hb.2 hal3.size⟩⟩)
   have HCT:=zd cT
   try rw[hs]
   clear q1 q1' q2 hs HBad HOk cT hwe hP2 x0 x1;go_wp2_with fail;refine HCT.out.mono ?_;rintro e w' ⟨y,rfl,hy⟩;have HY:=zd hy;clear hy;go_wp2_with fail;go_ret;exact⟨_,rfl,HY.out⟩
theorem zat (B:Nat) (l:zB) (i:Nat) (w:World) (h:zv B l i w) :
  Calls Tryz.prog 168 #[.pointer (some ⟨B,0,none⟩)] w fun e w'=>Moved B w w'/\
   ((ZK l i=.bad 4/\∃t,e=.returned (.tuple #[.string t,.bool false]))\/∃t j,ZK l i=.ok t j/\t.size<=maxLen/\e=.returned (.tuple #[.string t,.bool true])/\zv B l j w'):=by
 have HH:=zd h;clear h;go_enter Tryz.func168,Tryz.ntmps168;go_wp2_with fail;refine (qh B l i ⟨#[60]⟩ w HH.out).mono ?_;rintro e w1 ⟨rfl,q1,q2⟩;have HM1:=zd q2
 cases hs:sgn l i [60]
 ·have hs':sgn l i (ByteArray.mk #[60]).data.toList=false:=hs
  rw[hs'] at q1;have HR1:Hid (zv B l i w1):=q1;have HP:Hid (ZK l i=.ok zL i):=by show _=_; unfold ZK; rw[if_neg (by rw[hs]; simp)]
  try rw[hs']
  clear q1 q2 hs hs';go_wp2_with fail;go_ret2;exact⟨HM1.out,Or.inr ⟨_,_,HP.out,yi,rfl,HR1.out⟩⟩
 ·have hs':sgn l i (ByteArray.mk #[60]).data.toList=true:=hs
  rw[hs'] at q1;have HR1:Hid (zv B l (i+1) w1):=q1;have hP:ZK l i=match yM l (i+1) with
   |none=>.bad 4
   |some v=>if sgn l (i+2) [62]=true then .ok v (i+3) else .bad 4:=by unfold ZK; rw[if_pos hs]; rfl
  have HP:=zd hP
  try rw[hs']
  clear q1 q2 hs hs' hP;go_wp2_with fail;refine (km B l (i+1) w1 HR1.out).mono ?_;rintro e w2 ⟨hm,⟨hi,t,i',rfl,hr⟩|⟨t,hi,hok,rfl,hr⟩⟩
  ·have HP2:Hid (ZK l i=.bad 4):=by show _=_; rw[HP.out,hi]
   have HM2:=zd (HM1.out.trans hm);clear hm hi hr;go_wp2_with fail;go_ret2;exact⟨HM2.out,Or.inl ⟨HP2.out,_,rfl⟩⟩
  ·have hP2:ZK l i=if sgn l (i+2) [62]=true then .ok t (i+3) else .bad 4:=by rw[HP.out,hi]
   have HP2:=zd hP2;have HM2:=zd (HM1.out.trans hm);have HR2:=zd hr;have HT:=zd (ZL hok);clear hm hi hr hP2 hok;go_wp2_with fail;refine (qh B l (i+1+1) ⟨#[62]⟩ w2 HR2.out).mono ?_;rintro e w3 ⟨rfl,q1,q2⟩;have HM3:=zd (HM2.out.trans q2)
   cases hs:sgn l (i+2) [62]
   ·have hs':sgn l (i+1+1) (ByteArray.mk #[62]).data.toList=false:=hs
    have HP3:Hid (ZK l i=.bad 4):=by show _=_; rw[HP2.out,if_neg (by rw[hs]; simp)]
    try rw[hs']
    clear q1 q2 hs hs';go_wp2_with fail;go_ret2;exact⟨HM3.out,Or.inl ⟨HP3.out,_,rfl⟩⟩
   ·have hs':sgn l (i+1+1) (ByteArray.mk #[62]).data.toList=true:=hs
    rw[hs'] at q1;have HR3:Hid (zv B l (i+3) w3):=q1;have HP3:Hid (ZK l i=.ok t (i+3)):=by show _=_; rw[HP2.out,if_pos hs]
    try rw[hs']
    clear q1 q2 hs hs';go_wp2_with fail;go_ret2;exact⟨HM3.out,Or.inr ⟨_,_,HP3.out,HT.out,rfl,HR3.out⟩⟩
theorem Vh:(Tryz.prog.info? 86).map (fun i=>(i.zero,i.size,i.bytes))=some (some (.agg #[.string ⟨#[]⟩,.int .i64 0,.string ⟨#[]⟩,.string ⟨#[]⟩,.slice none 0 0]),5,80):=by kernel_rfl
def FdC (S:Nat->Prop) (W:World) (x:Fd) (cs:List Value):Prop:=∃k f n va1 va2 va3,cs=[.string x.name,.int .i64 k,.string f,.string n,.slice va1 va2 va3]/\x.name.size<=maxLen/\xJ S W x.is k f n (.slice va1 va2 va3)
theorem yD {S S':Nat->Prop} {W W':World} {x:Fd} {cs:List Value} (hk:Keeps S S' W W') (h:FdC S W x cs):FdC S' W' x cs:=by
 obtain⟨k,f,n,va1,va2,va3,rfl,hs,h⟩:=h;exact⟨k,f,n,va1,va2,va3,rfl,hs,h.keep hk⟩
theorem zaV {S:Nat->Prop} {W:World} {x:Fd} {cs:List Value} {b o:Nat} (_:cs.length=5) (h:FdC S W x cs) (hc:∀t u,cs[t]? = some u->W.cell? ⟨b,o+t,none⟩=some u):qO S W x b o:=by
 obtain⟨k,f,n,va1,va2,va3,rfl,hs,h⟩:=h;exact⟨⟨hc 0 _ rfl,hs⟩,qL.2 ⟨k,f,n,_,hc 1 _ rfl,hc 2 _ rfl,hc 3 _ rfl,hc 4 _ rfl,h⟩⟩
theorem Jp (bl br bo bn be bk base:Nat) (la:Option Addr) (lcap m:Nat) (xs:List Value) (nm:ByteArray) (k:Int) (f s:ByteArray) (va1:Option Addr) (va2 va3:Nat) (W:World)
  (B:Nat) (l:zB) (i:Nat) (fin:ByteArray) (g1 g:Nat) (lb1 lb:Array Value) (e1:∀args w,(callFunc g1 args).run Tryz.prog w=.ok (.enter g1 args) w) (eg:∀args w,(callFunc g args).run Tryz.prog w=.ok (.enter g args) w) (R:Int->World->Prop) (Wb:World) (caps:Array Value)
  (hl:W.heap[bl]? = some (.cells #[.slice la m lcap] 38 (0,0))) (hown:W.ownsRow base 86 5 (.slice la m lcap) m xs) (hbase:base<=W.heap.size) (hbl:bl<base)
  (hn:m+1<=maxLen) (hb:(m+1) * 80<=140737488355328) (hB:B<bl) (hr:zv B l i W) (hkept:Kept B bl base Wb W)
  (xr:LBox B bl base br (.pointer (some ⟨B,0,none⟩)) Wb) (xo:LBox B bl base bo (.func (.func g1) #[] lb1) Wb) (xn:LBox B bl base bn (.func (.func 287) #[] caps) Wb) (xe:LBox B bl base be (.string fin) Wb) (xk:LBox B bl base bk (.func (.func g) #[] lb) Wb)
  (hcomma:sgn l i [44]=true->∀g' cap' w w',Grew base bl 86 38 (.slice la m lcap) (.slice (some ⟨g',0,none⟩) (m+1) cap') (m+1) (xs++[.string nm,.int .i64 k,.string f,.string s,.slice va1 va2 va3]) W w->Moved B w w'->zv B l (i+1) w'->Calls Tryz.prog g1 (#[.func (.func 287) #[] caps]++lb1) w' (zQ R))
  (hfin:sgn l i [44]=false->sgn l i fin.data.toList=true->∀g' cap' w w',Grew base bl 86 38 (.slice la m lcap) (.slice (some ⟨g',0,none⟩) (m+1) cap') (m+1) (xs++[.string nm,.int .i64 k,.string f,.string s,.slice va1 va2 va3]) W w->Moved B w w'->zv B l (i+1) w'->Calls Tryz.prog g (#[.slice (some ⟨g',0,none⟩) (m+1) cap']++lb) w' (zQ R))
  (hno:sgn l i [44]=false->sgn l i fin.data.toList=false->∀g' cap' w w',Grew base bl 86 38 (.slice la m lcap) (.slice (some ⟨g',0,none⟩) (m+1) cap') (m+1) (xs++[.string nm,.int .i64 k,.string f,.string s,.slice va1 va2 va3]) W w->Moved B w w'->R 4 w') :
  Calls Tryz.prog 287 #[.agg #[.string nm,.int .i64 k,.string f,.string s,.slice va1 va2 va3],.pointer (some ⟨bl,0,none⟩),.pointer (some ⟨br,0,none⟩),.pointer (some ⟨bo,0,none⟩),.pointer (some ⟨bn,0,none⟩),.pointer (some ⟨be,0,none⟩),.pointer (some ⟨bk,0,none⟩)] W (zQ R):=by
 have HC:=zd hcomma;have HF0:=zd hfin;have HN0:=zd hno;have HKp:=zd hkept;have HRd:=zd hr;have HXr:=zd xr;have HXo:=zd xo;have HXn:=zd xn;have HXe:=zd xe;have HXk:=zd xk;have HE1:=zd e1;have HEg:=zd eg;have HB0:=zd hB;clear hcomma hfin hno hkept hr xr xo xn xe xk e1 eg hB;obtain⟨i0,hi0,hz0,hz1,hz2⟩:=info_parts Vh;have HI0:=zd hi0;have HZ0:=zd hz0;have HZ1:=zd hz1;have HZ2:=zd hz2;have HL:=zd hl;have HOwn:=zd hown;have HBase:=zd hbase;have HBl:=zd hbl;have HNl:=zd hn;have HBy:=zd hb;have hblW:bl<W.heap.size:=Nat.lt_of_lt_of_le hbl hbase;clear hl hown hbase hbl hn hb hi0 hz0 hz1 hz2;have hcl:W.cell? ⟨bl,0,none⟩=some (.slice la m lcap):=by rw[cell_of_row W bl 0 _ _ _ HL.out]; rfl
 have HNews:Hid (∀j u,([.string nm,.int .i64 k,.string f,.string s,.slice va1 va2 va3]:List Value)[j]? = some u->((W.alloc (.cells #[.string nm,.int .i64 k,.string f,.string s,.slice va1 va2 va3] 86)).alloc (.cells #[.string nm,.int .i64 k,.string f,.string s,.slice va1 va2 va3] 86)).cell? ((⟨W.heap.size+1,0,none⟩:Addr).add j)=some u):=by
  refine World.news_of_block (cs:=#[.string nm,.int .i64 k,.string f,.string s,.slice va1 va2 va3]) (t:=86) (fr:=(0,0)) ?_;have h:=heap_alloc_new (W.alloc (.cells #[.string nm,.int .i64 k,.string f,.string s,.slice va1 va2 va3] 86)) (.cells #[.string nm,.int .i64 k,.string f,.string s,.slice va1 va2 va3] 86);rw[show (W.alloc (.cells #[.string nm,.int .i64 k,.string f,.string s,.slice va1 va2 va3] 86)).heap.size=W.heap.size+1 by simp] at h;exact h
 have HOne:Hid (∀u∈([.string nm,.int .i64 k,.string f,.string s,.slice va1 va2 va3]:List Value),u.oneCell'=true):=by intro u hu; simp at hu; rcases hu with rfl|rfl|rfl|rfl|rfl <;> rfl
 have HH:Hid (((W.alloc (.cells #[.string nm,.int .i64 k,.string f,.string s,.slice va1 va2 va3] 86)).alloc (.cells #[.string nm,.int .i64 k,.string f,.string s,.slice va1 va2 va3] 86)).heap.size=W.heap.size+2):=by show _=_; simp
 have HBs:Hid (base<=((W.alloc (.cells #[.string nm,.int .i64 k,.string f,.string s,.slice va1 va2 va3] 86)).alloc (.cells #[.string nm,.int .i64 k,.string f,.string s,.slice va1 va2 va3] 86)).heap.size):=by show _<=_; rw[HH.out]; have:=HBase.out; omega
 have HFarB:Hid (some bl≠(Value.slice la m lcap).ownBlock):=fun h=>by have:=zk HOwn.out _ h.symm; have:=HBl.out; omega
 have HOld:Hid (∀k',k'<W.heap.size->((W.alloc (.cells #[.string nm,.int .i64 k,.string f,.string s,.slice va1 va2 va3] 86)).alloc (.cells #[.string nm,.int .i64 k,.string f,.string s,.slice va1 va2 va3] 86)).heap[k']? = W.heap[k']?):=by
  intro k' hk';rw[heap_alloc_old _ _ (by simp; omega),heap_alloc_old _ _ (by omega)]
 have HC2:Hid (∀w1,((W.alloc (.cells #[.string nm,.int .i64 k,.string f,.string s,.slice va1 va2 va3] 86)).alloc (.cells #[.string nm,.int .i64 k,.string f,.string s,.slice va1 va2 va3] 86)).grownBy w1 (Value.slice la m lcap).ownBlock->w1.cell? ⟨bl,0,none⟩=some (.slice la m lcap)/\w1.frozen? ⟨bl,0,none⟩=false):=by
  intro w1 hg;have hb1:w1.heap[bl]? = some (.cells #[.slice la m lcap] 38 (0,0)):=(hg.block bl (by rw[HH.out]; omega) HFarB.out).trans ((HOld.out bl hblW).trans HL.out);exact⟨by rw[cell_of_row w1 bl 0 _ _ _ hb1]; rfl,Lib.frozen_of_heap hb1 0⟩
 have HGr:Hid (∀g' cap' w1,w1.ownsRow base 86 5 (.slice (some ⟨g',0,none⟩) (m+1) cap') (m+1) (xs++[.string nm,.int .i64 k,.string f,.string s,.slice va1 va2 va3])->((W.alloc (.cells #[.string nm,.int .i64 k,.string f,.string s,.slice va1 va2 va3] 86)).alloc (.cells #[.string nm,.int .i64 k,.string f,.string s,.slice va1 va2 va3] 86)).grownBy w1 (Value.slice la m lcap).ownBlock->((Value.slice la m lcap).ownBlock=some g'\/g'=W.heap.size+2)->Grew base bl 86 38 (.slice la m lcap) (.slice (some ⟨g',0,none⟩) (m+1) cap') (m+1) (xs++[.string nm,.int .i64 k,.string f,.string s,.slice va1 va2 va3]) W (w1.setCell ⟨bl,0,none⟩ (.slice (some ⟨g',0,none⟩) (m+1) cap'))):=fun g' cap' w1 ho hg hat=>
  Zm (W0:=(W.alloc (.cells #[.string nm,.int .i64 k,.string f,.string s,.slice va1 va2 va3] 86)).alloc (.cells #[.string nm,.int .i64 k,.string f,.string s,.slice va1 va2 va3] 86)) HBl.out HBase.out (by rw[HH.out]; omega) rfl rfl rfl HOld.out hg HL.out HFarB.out ho (hat.imp_right (fun h=>by omega))
 go_enter Tryz.func287,Tryz.ntmps287;go_wp2_with (at_builtin; refine wpList_append_lies _ rfl _ _ 38 rfl base 86 i0 _ 5 80 Tryz.underlying38 HI0.out HZ0.out HZ1.out HZ2.out rfl (by decide) (.slice la m lcap) m xs rfl ((HOwn.out.alloc _).alloc _) ⟨W.heap.size+1,0,none⟩ 1 1 [.string nm,.int .i64 k,.string f,.string s,.slice va1 va2 va3] rfl rfl HNews.out HOne.out (by decide) HNl.out HBy.out HBs.out (W.heap.size+2) HH.out (fun g' cap' w1 hown1 hgrow hat hlt=>?_); obtain⟨hc2,hf2⟩:=HC2.out w1 hgrow; have HG0:=zd (HGr.out g' cap' w1 hown1 hgrow hat); have cr:=HXr.out.later (HKp.out.grew HG0.out HOwn.out HB0.out HBl.out); clear hown1 hgrow hat hlt);have hG:=HG0.out;generalize w1.setCell ⟨bl,0,none⟩ (.slice (some ⟨g',0,none⟩) (m+1) cap')=w at *;have HG:=zd hG;have HR1:=zd (zcF HRd.out hG HOwn.out HB0.out HBl.out);have hk1:=HKp.out.grew hG HOwn.out HB0.out HBl.out;have HK1:=zd hk1;have HBox:Hid (w.cell? ⟨bl,0,none⟩=some (.slice (some ⟨g',0,none⟩) (m+1) cap')):=by
  show _=_;rw[cell_of_row w bl 0 _ _ _ hG.box]; rfl
 have HBlW:=zd (vQ hG.box);clear hG hk1;refine (qh B l i ⟨#[44]⟩ _ HR1.out).mono ?_;rintro e w2 ⟨rfl,q1,q2⟩;have HM2:=zd q2;have hk2:=HK1.out.moved q2;have HK2:=zd hk2
 cases hc:sgn l i [44]
 ·have hc':sgn l i (ByteArray.mk #[44]).data.toList=false:=hc
  rw[hc'] at q1;have HR2:Hid (zv B l i w2):=q1;have HC0:=zd hc;have cr2:=HXr.out.later hk2;have ce2:=HXe.out.later hk2
  try rw[hc']
  clear q1 q2 hc hc' hk2 cr;go_wp2_with fail;refine (qh B l i fin _ HR2.out).mono ?_;rintro e w3 ⟨rfl,q1,q2⟩;have HM3:=zd (HM2.out.trans q2);have hk3:=HK2.out.moved q2
  cases hf:sgn l i fin.data.toList
  ·have HRes:=zd (HN0.out HC0.out hf g' cap' w w3 HG.out HM3.out)
   try rw[hf]
   clear q1 q2 hf hk3 cr2 ce2;go_wp2_with fail;go_ret;exact⟨_,rfl,HRes.out⟩
  ·rw[hf] at q1
   have q1':zv B l (i+1) w3:=q1;have HRes:=zd (HF0.out HC0.out hf g' cap' w w3 HG.out HM3.out q1');have ck3:=HXk.out.later hk3;have cl3:w3.cell? ⟨bl,0,none⟩=some (.slice (some ⟨g',0,none⟩) (m+1) cap'):=(HM3.out.cell HB0.out HBlW.out 0).trans HBox.out;have eg:=HEg.out
   try rw[hf]
   clear q1 q1' q2 hf hk3 cr2 ce2;go_wp2_with fail;refine HRes.out.mono ?_;rintro e w' ⟨y,rfl,hy⟩;have HY:=zd hy;clear hy;go_wp2_with fail;go_ret;exact⟨_,rfl,HY.out⟩
 ·have hc':sgn l i (ByteArray.mk #[44]).data.toList=true:=hc
  rw[hc'] at q1;have q1':zv B l (i+1) w2:=q1;have HRes:=zd (HC.out hc g' cap' w w2 HG.out HM2.out q1');have co:=HXo.out.later hk2;have cn:=HXn.out.later hk2;have e1:=HE1.out
  try rw[hc']
  clear q1 q1' q2 hc hc' hk2 cr;go_wp2_with fail;refine HRes.out.mono ?_;rintro e w' ⟨y,rfl,hy⟩;have HY:=zd hy;clear hy;go_wp2_with fail;go_ret;exact⟨_,rfl,HY.out⟩
def FuC (S:Nat->Prop) (W:World) (x:Fu) (cs:List Value):Prop:=∃vp1 vp2 vp3 k f n va1 va2 va3 k' n' f' s' ve1 ve2 ve3,cs=[.string x.name,.string x.var,.slice vp1 vp2 vp3,.int .i64 k,.string f,.string n,.slice va1 va2 va3,.int .i64 k',.int .i64 n',.string f',.string s',.slice ve1 ve2 ve3]/\
 x.name.size<=maxLen/\x.var.size<=maxLen/\ze S (qO S W) 5 x.params (.slice vp1 vp2 vp3)/\xJ S W x.result k f n (.slice va1 va2 va3)/\xP S W x.body k' n' f' s' (.slice ve1 ve2 ve3)
theorem ZN {S S':Nat->Prop} {W W':World} {x:Fu} {cs:List Value} (hk:Keeps S S' W W') (h:FuC S W x cs):FuC S' W' x cs:=by
 obtain⟨vp1,vp2,vp3,k,f,n,va1,va2,va3,k',n',f',s',ve1,ve2,ve3,rfl,h1,h2,h3,h4,h5⟩:=h;exact⟨vp1,vp2,vp3,k,f,n,va1,va2,va3,k',n',f',s',ve1,ve2,ve3,rfl,h1,h2,zP hk h3,h4.keep hk,h5.keep hk⟩
theorem zhW {S:Nat->Prop} {W:World} {x:Fu} {cs:List Value} {b o:Nat} (h:FuC S W x cs) (hc:∀t u,cs[t]? = some u->W.cell? ⟨b,o+t,none⟩=some u):kG S W x b o:=by
 obtain⟨vp1,vp2,vp3,k,f,n,va1,va2,va3,k',n',f',s',ve1,ve2,ve3,rfl,h1,h2,h3,h4,h5⟩:=h;exact⟨⟨hc 0 _ rfl,h1⟩,⟨hc 1 _ rfl,h2⟩,⟨_,hc 2 _ rfl,h3⟩,qL.2 ⟨k,f,n,_,hc 3 _ rfl,hc 4 _ rfl,hc 5 _ rfl,hc 6 _ rfl,h4⟩,qU.2 ⟨k',n',f',s',_,hc 7 _ rfl,hc 8 _ rfl,hc 9 _ rfl,hc 10 _ rfl,hc 11 _ rfl,h5⟩⟩
def StC (_:Nat->Prop) (_:World) (x:ByteArray) (cs:List Value):Prop:=cs=[.string x]/\x.size<=maxLen
theorem QO {S S':Nat->Prop} {W W':World} {x:ByteArray} {cs:List Value} (_:Keeps S S' W W') (h:StC S W x cs):StC S' W' x cs:=h
theorem zhX {S:Nat->Prop} {W:World} {x:ByteArray} {cs:List Value} {b o:Nat} (h:StC S W x cs) (hc:∀t u,cs[t]? = some u->W.cell? ⟨b,o+t,none⟩=some u):zG W x b o:=by
 obtain⟨rfl,h⟩:=h;exact⟨hc 0 _ rfl,h⟩
section
variable {α:Type} (C:(Nat->Prop)->World->α->List Value->Prop) (T:TypeId) (c:Nat)
structure RowIs (base n1:Nat) (S:Nat->Prop) (xs:List α) (v:Value) (ys:List Value) (W:World):Prop where
 own:W.ownsRow base T c v xs.length ys
 old:∀g,v.ownBlock=some g->g<n1
 items:∀j (hj:j<xs.length),∃cs,cs.length=c/\(∀t,t<c->ys[j * c+t]? = cs[t]?)/\C S W xs[j] cs
variable {C T c}
theorem RowIs.keep (hC:∀{S S':Nat->Prop} {W W':World} {x:α} {cs:List Value},Keeps S S' W W'->C S W x cs->C S' W' x cs) {base n1 n2:Nat} {S S':Nat->Prop} {xs:List α} {v:Value} {ys:List Value} {W W':World} (h:RowIs C T c base n1 S xs v ys W)
  (hk:Keeps S S' W W') (hrow:∀g,v.ownBlock=some g->W'.heap[g]? = W.heap[g]?) (hn:n1<=n2):RowIs C T c base n2 S' xs v ys W':=by
 refine⟨⟨h.own.1,h.own.2.imp_right ?_⟩,fun g hg=>Nat.lt_of_lt_of_le (h.old g hg) hn,fun j hj=>?_⟩
 ·rintro ⟨g,cap,cur,rfl,hb,hg,hr⟩
  exact⟨g,cap,cur,rfl,hb,(hrow g rfl).trans hg,hr⟩
 ·obtain⟨cs,h1,h2,h3⟩:=h.items j hj
  exact⟨cs,h1,h2,hC hk h3⟩
theorem RowIs.push (hC:∀{S S':Nat->Prop} {W W':World} {x:α} {cs:List Value},Keeps S S' W W'->C S W x cs->C S' W' x cs) {base n1 n2:Nat} {S S':Nat->Prop} {xs:List α} {x:α} {v v':Value} {ys cs:List Value} {W W':World} (h:RowIs C T c base n1 S xs v ys W)
  (hk:Keeps S S' W W') (hown:W'.ownsRow base T c v' (xs.length+1) (ys++cs)) (hold:∀g,v'.ownBlock=some g->g<n2) (hcs:cs.length=c) (hx:C S' W' x cs):RowIs C T c base n2 S' (xs++[x]) v' (ys++cs) W':=by
 have e:(xs++[x]).length=xs.length+1:=by simp
 have hyl:ys.length=xs.length * c:=h.own.1;refine⟨by rw[e]; exact hown,hold,fun j hj=>?_⟩
 by_cases hjx:j<xs.length
 ·obtain⟨c',h1,h2,h3⟩:=h.items j hjx
  refine⟨c',h1,fun t ht=>?_,?_⟩
  ·have hle:(j+1) * c<=xs.length * c:=Nat.mul_le_mul_right c hjx
   rw[Nat.add_mul,Nat.one_mul] at hle;rw[List.getElem?_append_left (by omega)];exact h2 t ht
  ·rw[List.getElem_append_left hjx]
   exact hC hk h3
 ·have hje:j=xs.length:=by omega
  subst hje;refine⟨cs,hcs,fun t _=>?_,?_⟩
  ·rw[List.getElem?_append_right (by omega),hyl]
   congr 1
   omega
  ·rw[List.getElem_append_right (Nat.le_refl _)]
   simp only[Nat.sub_self,List.getElem_cons_zero];exact hx
theorem RowIs.toSl {P:α->Nat->Nat->Prop} {S:Nat->Prop} {base n1 n0:Nat} {xs:List α} {v:Value} {ys:List Value} {W:World} {S0:Nat->Prop}
  (hP:∀{x:α} {cs:List Value} {b o:Nat},C S0 W x cs->(∀t u,cs[t]? = some u->W.cell? ⟨b,o+t,none⟩=some u)->P x b o) (h:RowIs C T c base n1 S0 xs v ys W) (hS:∀b,base<=b->b<W.heap.size->S b) (_:n0<=base) (hmax:xs.length<=maxLen):ze S P c xs v:=by
 rcases h.own.2 with ⟨h1,h2⟩|⟨g,cap,cur,h1,hb,hg,h3,_⟩
 ·subst h1
  exact⟨none,0,by rw[h2],⟨hmax,by omega⟩,Or.inl h2⟩
 ·subst h1
  have hin:=zk h.own g rfl;refine⟨_,cap,rfl,⟨hmax,h3⟩,Or.inr ⟨g,0,rfl,hS g hin.1 hin.2,qA.mk fun j hj=>?_⟩⟩;obtain⟨cs,h1,h2,h3⟩:=h.items j hj;refine hP h3 (fun t u hu=>?_);have ht:t<c:=by rw[<- h1]; exact (List.getElem?_eq_some_iff.1 hu).1
  rw[Nat.zero_add];exact kW h.own _ _ ((h2 t ht).trans hu)
end
def yQ (base n1:Nat) (vu vt vf:Value) (b:Nat):Prop:=base<=b/\b<n1/\vu.ownBlock≠some b/\vt.ownBlock≠some b/\vf.ownBlock≠some b
structure ModAt (base M n1:Nat) (mo:Mo) (vu vt vf:Value) (W:World):Prop where
 mod:W.heap[M]? = some (.cells #[vu,vt,vf] 41 (0,0))
 hM:M<base
 hb:base<=n1
 hn:n1<=W.heap.size
 us:∃ys,RowIs StC 9 1 base n1 (yQ base n1 vu vt vf) mo.uses vu ys W
 ts:∃ys,RowIs FdC 86 5 base n1 (yQ base n1 vu vt vf) mo.types vt ys W
 fs:∃ys,RowIs FuC 72 12 base n1 (yQ base n1 vu vt vf) mo.funcs vf ys W
theorem ModAt.keep {base M n1:Nat} {mo:Mo} {vu vt vf:Value} {W W':World} (h:ModAt base M n1 mo vu vt vf W) (hb:Below n1 W W'):ModAt base M n1 mo vu vt vf W':=by
 obtain⟨yu,hu⟩:=h.us;obtain⟨yt,ht⟩:=h.ts;obtain⟨yf,hf⟩:=h.fs;have hk:Keeps (yQ base n1 vu vt vf) (yQ base n1 vu vt vf) W W':=⟨fun b hb'=>hb.block b hb'.2.1,fun _ h=>h⟩
 have hM:=h.hM;have hbn:=h.hb;exact⟨(hb.block M (by omega)).trans h.mod,h.hM,h.hb,Nat.le_trans h.hn hb.size,⟨yu,RowIs.keep (C:=StC) (fun hk h=>QO hk h) hu hk (fun g hg=>hb.block g (hu.old g hg)) (Nat.le_refl _)⟩,
  ⟨yt,RowIs.keep (C:=FdC) (fun hk h=>yD hk h) ht hk (fun g hg=>hb.block g (ht.old g hg)) (Nat.le_refl _)⟩,⟨yf,RowIs.keep (C:=FuC) (fun hk h=>ZN hk h) hf hk (fun g hg=>hb.block g (hf.old g hg)) (Nat.le_refl _)⟩⟩
theorem Zf {W:World} {base c c' n n':Nat} {T T':TypeId} {v v':Value} {ys ys':List Value} (h:W.ownsRow base T c v n ys) (h':W.ownsRow base T' c' v' n' ys') (hT:T≠T') {g:Nat} (hg:v.ownBlock=some g):v'.ownBlock≠some g:=by
 intro hg'
 rcases h.2 with ⟨rfl,_⟩|⟨g1,_,_,rfl,_,h1,_⟩
 ·cases hg
 ·rcases h'.2 with ⟨rfl,_⟩|⟨g2,_,_,rfl,_,h2,_⟩
  ·cases hg'
  ·have e1:g1=g:=by simpa [Value.ownBlock] using hg
   have e2:g2=g:=by simpa [Value.ownBlock] using hg'
   subst e1;subst e2;rw[h1] at h2;injection h2 with h2
   injection h2 with _ h2
   exact hT h2
structure GrewM (base M o:Nat) (cells:Array Value) (T:TypeId) (c:Nat) (v v':Value) (n:Nat) (ys:List Value) (W W':World):Prop where
 os:W'.os=W.os
 tape:W'.tape=W.tape
 output:W'.output=W.output
 size:W.heap.size<=W'.heap.size
 mod:W'.heap[M]? = some (.cells (cells.setIfInBounds o v') 41 (0,0))
 own:W'.ownsRow base T c v' n ys
 rest:∀k,k<W.heap.size->k≠M->some k≠v.ownBlock->W'.heap[k]? = W.heap[k]?
 row:∀k,v'.ownBlock=some k->v.ownBlock=some k\/W.heap.size<=k
theorem xg {base M o c:Nat} {cells:Array Value} {T:TypeId} {v:Value} {n g cap:Nat} {ys:List Value} {W W0 w1:World} (hM:M<base) (hb:base<=W.heap.size)
  (h0:W.heap.size<=W0.heap.size) (hos:W0.os=W.os) (htape:W0.tape=W.tape) (hout:W0.output=W.output) (hk:∀k,k<W.heap.size->W0.heap[k]? = W.heap[k]?)
  (hg:W0.grownBy w1 v.ownBlock) (hbox:W.heap[M]? = some (.cells cells 41 (0,0))) (hbv:some M≠v.ownBlock) (hown:w1.ownsRow base T c (.slice (some ⟨g,0,none⟩) n cap) n ys) (hat:v.ownBlock=some g\/W.heap.size<=g) :
  GrewM base M o cells T c v (.slice (some ⟨g,0,none⟩) n cap) n ys W (w1.setCell ⟨M,o,none⟩ (.slice (some ⟨g,0,none⟩) n cap)):=by
 have hMW:M<W.heap.size:=by omega
 have hb1:w1.heap[M]? = some (.cells cells 41 (0,0)):=(hg.block M (by omega) hbv).trans ((hk M hMW).trans hbox);refine⟨hg.os.trans hos,hg.tape.trans htape,hg.output.trans hout,?_,?_,?_,?_,?_⟩
 ·rw[zT]; exact Nat.le_trans h0 hg.size
 ·exact vM hb1 o _
 ·exact ownsRow_setCell_below hown (a:=⟨M,o,none⟩) hM _
 ·intro k hk' hne hrow
  rw[Below.heap_setCell _ _ _ _ (by show k≠M; exact hne),hg.block k (by omega) hrow,hk k hk']
 ·intro k hk'
  have:g=k:=by simpa [Value.ownBlock] using hk'
  subst this;exact hat
theorem GrewM.below {base M o c:Nat} {cells:Array Value} {T:TypeId} {v v':Value} {n n':Nat} {ys ys':List Value} {W W':World} (h:GrewM base M o cells T c v v' n' ys' W W') (hown:W.ownsRow base T c v n ys) (hM:M<base) (hW:M<=W.heap.size):Below M W W':=
 ⟨h.os,h.tape,h.output,h.size,fun k hk=>h.rest k (by omega) (by omega) (fun e=>by have:=zk hown _ e.symm; omega)⟩
theorem ModAt.pushT {base M n1:Nat} {mo:Mo} {vu vt vf:Value} {W W':World} {x:Fd} {cs yt:List Value} {v':Value} (h:ModAt base M n1 mo vu vt vf W) (hy:RowIs FdC 86 5 base n1 (yQ base n1 vu vt vf) mo.types vt yt W)
  (hg:GrewM base M 1 #[vu,vt,vf] 86 5 vt v' (mo.types.length+1) (yt++cs) W W') (hcs:cs.length=5) (hx:FdC (zm n1 W) W x cs):ModAt base M W'.heap.size { mo with types:=mo.types++[x] } vu v' vf W':=by
 obtain⟨yu,hu⟩:=h.us;obtain⟨yf,hf⟩:=h.fs;have hM:=h.hM;have hb:=h.hb;have hn:=h.hn;have hsz:=hg.size;have hk:Keeps (yQ base n1 vu vt vf) (yQ base W'.heap.size vu v' vf) W W':=
  ⟨fun b hb'=>hg.rest b (by have:=hb'.2.1; omega) (by have:=hb'.1; omega) (fun e=>hb'.2.2.2.1 e.symm),fun b hb'=>⟨hb'.1,by have:=hb'.2.1; omega,hb'.2.2.1,fun e=>by
   rcases hg.row b e with h1|h1
   ·exact hb'.2.2.2.1 h1
   ·have:=hb'.2.1; omega,hb'.2.2.2.2⟩⟩
 have hkx:Keeps (zm n1 W) (yQ base W'.heap.size vu v' vf) W W':=
  ⟨fun b hb'=>hg.rest b hb'.2 (by have:=hb'.1; omega) (fun e=>by have:=hy.old b e.symm; have:=hb'.1; omega),fun b hb'=>⟨by have:=hb'.1; omega,by have:=hb'.2; omega,fun e=>by have:=hu.old b e; have:=hb'.1; omega,fun e=>by
   rcases hg.row b e with h1|h1
   ·have:=hy.old b h1; have:=hb'.1; omega
   ·have:=hb'.2; omega,fun e=>by have:=hf.old b e; have:=hb'.1; omega⟩⟩
 refine⟨hg.mod,hM,by omega,Nat.le_refl _,⟨yu,RowIs.keep (C:=StC) (fun hk h=>QO hk h) hu hk (fun g' hg'=>?_) (by omega)⟩,⟨_,RowIs.push (C:=FdC) (fun hk h=>yD hk h) hy hk hg.own (fun g' hg'=>(zk hg.own g' hg').2) hcs (yD hkx hx)⟩,⟨yf,RowIs.keep (C:=FuC) (fun hk h=>ZN hk h) hf hk (fun g' hg'=>?_) (by omega)⟩⟩
 ·have h1:=hu.old g' hg'
  have h2:=zk hu.own g' hg';exact hg.rest g' (by omega) (by omega) (fun e=>Zf hu.own hy.own (by decide) hg' e.symm)
 ·have h1:=hf.old g' hg'
  have h2:=zk hf.own g' hg';exact hg.rest g' (by omega) (by omega) (fun e=>Zf hf.own hy.own (by decide) hg' e.symm)
theorem ModAt.pushF {base M n1:Nat} {mo:Mo} {vu vt vf:Value} {W W':World} {x:Fu} {cs yf:List Value} {v':Value} (h:ModAt base M n1 mo vu vt vf W) (hy:RowIs FuC 72 12 base n1 (yQ base n1 vu vt vf) mo.funcs vf yf W)
  (hg:GrewM base M 2 #[vu,vt,vf] 72 12 vf v' (mo.funcs.length+1) (yf++cs) W W') (hcs:cs.length=12) (hx:FuC (zm n1 W) W x cs):ModAt base M W'.heap.size { mo with funcs:=mo.funcs++[x] } vu vt v' W':=by
 obtain⟨yu,hu⟩:=h.us;obtain⟨yt,ht⟩:=h.ts;have hM:=h.hM;have hb:=h.hb;have hn:=h.hn;have hsz:=hg.size;have hk:Keeps (yQ base n1 vu vt vf) (yQ base W'.heap.size vu vt v') W W':=
  ⟨fun b hb'=>hg.rest b (by have:=hb'.2.1; omega) (by have:=hb'.1; omega) (fun e=>hb'.2.2.2.2 e.symm),fun b hb'=>⟨hb'.1,by have:=hb'.2.1; omega,hb'.2.2.1,hb'.2.2.2.1,fun e=>by
   rcases hg.row b e with h1|h1
   ·exact hb'.2.2.2.2 h1
   ·have:=hb'.2.1; omega⟩⟩
 have hkx:Keeps (zm n1 W) (yQ base W'.heap.size vu vt v') W W':=
  ⟨fun b hb'=>hg.rest b hb'.2 (by have:=hb'.1; omega) (fun e=>by have:=hy.old b e.symm; have:=hb'.1; omega),fun b hb'=>⟨by have:=hb'.1; omega,by have:=hb'.2; omega,fun e=>by have:=hu.old b e; have:=hb'.1; omega,fun e=>by have:=ht.old b e; have:=hb'.1; omega,fun e=>by
   rcases hg.row b e with h1|h1
   ·have:=hy.old b h1; have:=hb'.1; omega
   ·have:=hb'.2; omega⟩⟩
 refine⟨hg.mod,hM,by omega,Nat.le_refl _,⟨yu,RowIs.keep (C:=StC) (fun hk h=>QO hk h) hu hk (fun g' hg'=>?_) (by omega)⟩,⟨yt,RowIs.keep (C:=FdC) (fun hk h=>yD hk h) ht hk (fun g' hg'=>?_) (by omega)⟩,⟨_,RowIs.push (C:=FuC) (fun hk h=>ZN hk h) hy hk hg.own (fun g' hg'=>(zk hg.own g' hg').2) hcs (ZN hkx hx)⟩⟩
 ·have h1:=hu.old g' hg'
  have h2:=zk hu.own g' hg';exact hg.rest g' (by omega) (by omega) (fun e=>Zf hu.own hy.own (by decide) hg' e.symm)
 ·have h1:=ht.old g' hg'
  have h2:=zk ht.own g' hg';exact hg.rest g' (by omega) (by omega) (fun e=>Zf ht.own hy.own (by decide) hg' e.symm)
theorem ModAt.pushU {base M n1:Nat} {mo:Mo} {vu vt vf:Value} {W W':World} {x:ByteArray} {yu:List Value} {v':Value} (h:ModAt base M n1 mo vu vt vf W) (hy:RowIs StC 9 1 base n1 (yQ base n1 vu vt vf) mo.uses vu yu W)
  (hg:GrewM base M 0 #[vu,vt,vf] 9 1 vu v' (mo.uses.length+1) (yu++[.string x]) W W') (hx:x.size<=maxLen):ModAt base M W'.heap.size { mo with uses:=mo.uses++[x] } v' vt vf W':=by
 obtain⟨yt,ht⟩:=h.ts;obtain⟨yf,hf⟩:=h.fs;have hM:=h.hM;have hb:=h.hb;have hn:=h.hn;have hsz:=hg.size;have hk:Keeps (yQ base n1 vu vt vf) (yQ base W'.heap.size v' vt vf) W W':=
  ⟨fun b hb'=>hg.rest b (by have:=hb'.2.1; omega) (by have:=hb'.1; omega) (fun e=>hb'.2.2.1 e.symm),fun b hb'=>⟨hb'.1,by have:=hb'.2.1; omega,fun e=>by
   rcases hg.row b e with h1|h1
   ·exact hb'.2.2.1 h1
   ·have:=hb'.2.1; omega,hb'.2.2.2.1,hb'.2.2.2.2⟩⟩
 refine⟨hg.mod,hM,by omega,Nat.le_refl _,⟨_,RowIs.push (C:=StC) (fun hk h=>QO hk h) hy hk hg.own (fun g' hg'=>(zk hg.own g' hg').2) rfl ⟨rfl,hx⟩⟩,⟨yt,RowIs.keep (C:=FdC) (fun hk h=>yD hk h) ht hk (fun g' hg'=>?_) (by omega)⟩,⟨yf,RowIs.keep (C:=FuC) (fun hk h=>ZN hk h) hf hk (fun g' hg'=>?_) (by omega)⟩⟩
 ·have h1:=ht.old g' hg'
  have h2:=zk ht.own g' hg';exact hg.rest g' (by omega) (by omega) (fun e=>Zf ht.own hy.own (by decide) hg' e.symm)
 ·have h1:=hf.old g' hg'
  have h2:=zk hf.own g' hg';exact hg.rest g' (by omega) (by omega) (fun e=>Zf hf.own hy.own (by decide) hg' e.symm)
theorem ModAt.is {base M n1:Nat} {mo:Mo} {vu vt vf:Value} {W:World} (h:ModAt base M n1 mo vu vt vf W) (h1:mo.uses.length<=maxLen) (h2:mo.types.length<=maxLen) (h3:mo.funcs.length<=maxLen):qT (zm base W) W mo (.agg #[vu,vt,vf]):=by
 obtain⟨yu,hu⟩:=h.us;obtain⟨yt,ht⟩:=h.ts;obtain⟨yf,hf⟩:=h.fs;have hn:=h.hn;have hk:Keeps (yQ base n1 vu vt vf) (zm base W) W W:=⟨fun _ _=>rfl,fun b hb=>⟨hb.1,by have:=hb.2.1; omega⟩⟩
 exact⟨vu,vt,vf,rfl,hu.toSl (n0:=0) (fun hc h=>zhX hc h) (fun b h1 h2=>⟨h1,h2⟩) (Nat.zero_le _) h1,ht.toSl (n0:=0) (fun hc h=>zaV (by obtain⟨_,_,_,_,_,_,rfl,_⟩:=hc; rfl) (yD hk hc) h) (fun b h1 h2=>⟨h1,h2⟩) (Nat.zero_le _) h2,
  hf.toSl (n0:=0) (fun hc h=>zhW (ZN hk hc) h) (fun b h1 h2=>⟨h1,h2⟩) (Nat.zero_le _) h3⟩
end Go.Proofs.YtedpiamfpbdhoaaGreatDoor
