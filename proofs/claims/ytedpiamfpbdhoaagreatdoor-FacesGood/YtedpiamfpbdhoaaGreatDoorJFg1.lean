import Derived.Test.YtedpiamfpbdhoaaGreatDoorJFg0
import Derived.Deep.QuietTactic
import Derived.BigQuiet
import Derived.Lib.Builder
set_option maxHeartbeats 40000000
set_option maxRecDepth 100000
namespace Go.Proofs.YtedpiamfpbdhoaaGreatDoor
open Go.RowKit
def Qe (B:Nat) (w:World) (tv:Value) (l:zB):Prop:=
 (l.length<=200/\∀t∈l,t.1=2->jr t.2=true)/\((l=[]/\∃a cap,tv=.slice a 0 cap)\/
 ∃b off cap,tv=.slice (some ⟨b,off,none⟩) l.length cap/\b<B/\
  ∀i (hi:i<l.length),w.cell? ⟨b,off+i * 2,none⟩=some (.int .i64 l[i].1)/\w.cell? ⟨b,off+i * 2+1,none⟩=some (.string l[i].2)/\l[i].2.size<=maxLen)
theorem Qe.keep {B:Nat} {w w':World} {tv:Value} {l:zB} (h:Qe B w tv l) (hb:Below B w w'):Qe B w' tv l:=by
 refine⟨h.1,h.2.imp_right ?_⟩;rintro ⟨b,off,cap,rfl,hbB,hc⟩;exact⟨b,off,cap,rfl,hbB,fun i hi=>⟨(hb.cell (by exact hbB)).trans (hc i hi).1,(hb.cell (by exact hbB)).trans (hc i hi).2.1,(hc i hi).2.2⟩⟩
def zv (B:Nat) (l:zB) (i:Nat) (w:World):Prop:=∃tv,w.heap[B]? = some (.cells #[tv,.int .i64 i] 162 (0,0))/\Qe B w tv l/\i<=l.length
structure Moved (B:Nat) (w w':World):Prop where
 below:Below B w w'
 above:∀c,B<c->c<w.heap.size->w'.heap[c]? = w.heap[c]?
theorem Moved.refl (B:Nat) (w:World):Moved B w w:=⟨Below.refl _ _,fun _ _ _=>rfl⟩
theorem Moved.trans {B:Nat} {w w' w'':World} (h:Moved B w w') (h':Moved B w' w''):Moved B w w'':=
 ⟨h.below.trans h'.below,fun c hc hlt=>(h'.above c hc (Nat.lt_of_lt_of_le hlt h.below.size)).trans (h.above c hc hlt)⟩
theorem Moved.of_below {B:Nat} {w w':World} (h:Below w.heap.size w w') (hB:B<=w.heap.size):Moved B w w':=⟨h.mono hB,fun c _ hlt=>h.block c hlt⟩
theorem Moved.drew {B:Nat} {w w':World} (h:Moved B w w'):Moved B w w'.drew:=⟨h.below.drew,h.above⟩
theorem Moved.drewN {B:Nat} {w w':World} (h:Moved B w w') (n:Nat):Moved B w (w'.drewN n):=⟨⟨h.below.os,h.below.tape,h.below.output,h.below.size,h.below.block⟩,h.above⟩
theorem Moved.alloc {B:Nat} {w w':World} (h:Moved B w w') (hB:B<=w'.heap.size) (o:Obj):Moved B w (w'.alloc o):=h.trans (Moved.of_below ((Below.refl _ _).alloc (Nat.le_refl _) o) hB)
theorem Moved.set {B:Nat} {w w':World} (h:Moved B w w') (o:Nat) (u:Value):Moved B w (w'.setCell ⟨B,o,none⟩ u):=
 h.trans ⟨(Below.refl B _).setCell (p:=⟨B,o,none⟩) (Nat.le_refl B) u,fun c hc _=>Below.heap_setCell _ _ _ _ (by show c≠B; omega)⟩
theorem Moved.cell {B:Nat} {w w':World} (h:Moved B w w') {c:Nat} (hc:B<c) (hlt:c<w.heap.size) (o:Nat):w'.cell? ⟨c,o,none⟩=w.cell? ⟨c,o,none⟩:=World.cell?_of_block (h.above c hc hlt)
theorem xC {B:Nat} {l:zB} {i:Nat} {w:World} (h:zv B l i w):B<w.heap.size:=by
 obtain⟨tv,hb,_⟩:=h
 rcases Nat.lt_or_ge B w.heap.size with h'|h'
 ·exact h'
 ·rw[Array.getElem?_eq_none h'] at hb; cases hb
theorem zS {B:Nat} {l:zB} {i:Nat} {w w':World} (h:zv B l i w) (hb:Below w.heap.size w w'):zv B l i w':=by
 have hlt:=xC h;obtain⟨tv,h1,h2,h3⟩:=h;exact⟨tv,(hb.block B hlt).trans h1,h2.keep (hb.mono (by omega)),h3⟩
theorem zcE {B:Nat} {l:zB} {i:Nat} {tv:Value} {w:World} (h1:w.heap[B]? = some (.cells #[tv,.int .i64 i] 162 (0,0))) (h2:Qe B w tv l) (hi:i<l.length):zv B l (i+1) (w.setCell ⟨B,1,none⟩ (.int .i64 ((i:Int)+1))):=by
 refine⟨tv,?_,h2.keep ((Below.refl B _).setCell (p:=⟨B,1,none⟩) (Nat.le_refl B) _),hi⟩;simp[World.setCell,Array.getElem?_modify,h1]
def adv (b:Bool) (i:Nat):Nat:=if b=true then i+1 else i
theorem zhU {l:zB} {i:Nat} (h:i<l.length) (k:Int) (s:List UInt8):QL l i k s=(l[i].1==k&&l[i].2.data.toList==s):=by
 unfold QL;rw[List.getElem?_eq_getElem h]
theorem zhd {l:zB} {i:Nat} (h:¬i<l.length) (k:Int) (s:List UInt8):QL l i k s=false:=by
 unfold QL;rw[List.getElem?_eq_none (by omega)]
theorem zaT (B:Nat) (l:zB) (i:Nat) (k:Int) (s:ByteArray) (w:World) (h:zv B l i w) :
  Calls Tryz.prog 163 #[.pointer (some ⟨B,0,none⟩),.agg #[.int .i64 k,.string s]] w fun e w'=>e=.returned (.bool (QL l i k s.data.toList))/\zv B l (adv (QL l i k s.data.toList) i) w'/\Moved B w w':=by
 have hlt:=xC h;have HA:=zd (zS h ((Below.refl _ _).alloc (Nat.le_refl _) (.cells #[.int .i64 k,.string s] 179)));have HM:Hid (Moved B w (w.alloc (.cells #[.int .i64 k,.string s] 179))):=Moved.of_below ((Below.refl _ _).alloc (Nat.le_refl _) _) (by omega);obtain⟨tv,hb,⟨⟨h200,hgood⟩,htk⟩,hi⟩:=h;have b0:w.cell? ⟨B,0,none⟩=some tv:=by rw[Lib.cell_of_heap hb]; rfl
 have b1:w.cell? ⟨B,1,none⟩=some (.int .i64 i):=by rw[Lib.cell_of_heap hb]; rfl
 have hfz:w.frozen? ⟨B,1,none⟩=false:=Lib.frozen_of_heap hb 1
 by_cases hlt2:i<l.length
 ·rcases htk with ⟨rfl,_⟩|⟨b,off,cap,rfl,hbB,hcell⟩
  ·simp at hlt2
  obtain⟨c0,c1,hsz⟩:=hcell i hlt2;have HT:=zd (zhU hlt2 k s.data.toList);have hne:((i:Int)==(l.length:Int))=false:=beq_eq_false_iff_ne.2 (by omega);have hlt3:(i:Int)<(l.length:Int):=by omega
  have HBk:=zd hb;have HTk:Hid (Qe B w (.slice (some ⟨b,off,none⟩) l.length cap) l):=⟨⟨h200,hgood⟩,Or.inr ⟨b,off,cap,rfl,hbB,hcell⟩⟩
  clear hcell hb hgood;generalize l[i].1=kd at *;generalize l[i].2=tx at *;have hbn:b<w.heap.size:=by omega
  have HN1:=zd (zcE (w:=w.alloc (.cells #[.int .i64 k,.string s] 179)) ((Below.heap_alloc _ _ _ hlt).trans HBk.out) (HTk.out.keep HM.out.below) hlt2);have HT2:=zd (vz tx s.data.toList);have HT3:Hid ((tx.toList==s.toList)=(tx.data.toList==s.data.toList)):=by show _=_; rw[Lib.toList_data,Lib.toList_data]
  have hbn2:b≠w.heap.size:=by omega
  have hBn:B≠w.heap.size:=by omega
  cases hk:(kd==k) <;> cases hs:(tx.toList==s.toList)
  case true.true=>
   have HR:Hid (QL l i k s.data.toList=true):=by show _=_; rw[HT.out,hk,<- HT3.out,hs]; rfl
   rw[HR.out];go_enter Tryz.func163,Tryz.ntmps163;go_wp2_with fail
   go_quiet (fail)
   all_goals
    go_wp2_with fail;go_ret;exact⟨rfl,HN1.out,(HM.out.drewN nq).set 1 _⟩
  all_goals
   have HR:Hid (QL l i k s.data.toList=false):=by show _=_; rw[HT.out,hk,<- HT3.out,hs]; rfl
   rw[HR.out];go_enter Tryz.func163,Tryz.ntmps163;go_wp2_with fail
   go_quiet (fail)
   all_goals
    go_wp2_with fail;go_ret;exact⟨rfl,HA.out,HM.out.drewN nq⟩
 ·have hie:i=l.length:=by omega
  have hne:((i:Int)==(l.length:Int))=true:=by rw[hie]; simp
  have HR:=zd (zhd hlt2 k s.data.toList);rw[HR.out];obtain⟨a,cap,rfl⟩:∃a cap,tv=.slice a l.length cap:=by
   rcases htk with ⟨rfl,a,cap,rfl⟩|⟨b,off,cap,rfl,_,_⟩
   ·exact⟨a,cap,rfl⟩
   ·exact⟨_,cap,rfl⟩
  clear htk hie hlt2 hb hgood;go_enter Tryz.func163,Tryz.ntmps163;go_wp2_with fail
  go_quiet (fail)
  all_goals
   go_wp2_with fail;go_ret;exact⟨rfl,HA.out,HM.out.drewN nq⟩
theorem Qf (B:Nat) (l:zB) (i:Nat) (s:ByteArray) (w:World) (h:zv B l i w) :
  Calls Tryz.prog 96 #[.pointer (some ⟨B,0,none⟩),.string s] w fun e w'=>e=.returned (.bool (wrd l i s.data.toList))/\zv B l (adv (wrd l i s.data.toList) i) w'/\Moved B w w':=by
 have HH:=zd h;clear h;go_enter Tryz.func96,Tryz.ntmps96;go_wp2_with fail;refine (zaT B l i 1 s _ HH.out).mono ?_;rintro e w' ⟨rfl,q1,q2⟩;go_wp2_with fail;go_ret;exact⟨rfl,q1,q2⟩
theorem qh (B:Nat) (l:zB) (i:Nat) (s:ByteArray) (w:World) (h:zv B l i w) :
  Calls Tryz.prog 165 #[.pointer (some ⟨B,0,none⟩),.string s] w fun e w'=>e=.returned (.bool (sgn l i s.data.toList))/\zv B l (adv (sgn l i s.data.toList) i) w'/\Moved B w w':=by
 have HH:=zd h;clear h;go_enter Tryz.func165,Tryz.ntmps165;go_wp2_with fail;refine (zaT B l i 4 s _ HH.out).mono ?_;rintro e w' ⟨rfl,q1,q2⟩;go_wp2_with fail;go_ret;exact⟨rfl,q1,q2⟩
theorem zhe {l:zB} {i:Nat} (h:i<l.length) (k:Int):vS l i k=if l[i].1=k then some l[i].2 else none:=by
 unfold vS;rw[List.getElem?_eq_getElem h]
theorem zfS {l:zB} {i:Nat} (h:¬i<l.length) (k:Int):vS l i k=none:=by
 unfold vS;rw[List.getElem?_eq_none (by omega)]
theorem VT (B:Nat) (l:zB) (i:Nat) (k:Int) (w:World) (h:zv B l i w) :
  Calls Tryz.prog 238 #[.pointer (some ⟨B,0,none⟩),.int .i64 k] w fun e w'=>Moved B w w'/\
   ((vS l i k=none/\e=.returned (.tuple #[.string ⟨#[]⟩,.bool false])/\zv B l i w')\/∃t,vS l i k=some t/\t.size<=maxLen/\e=.returned (.tuple #[.string t,.bool true])/\zv B l (i+1) w'):=by
 have hlt:=xC h;have HA:=zd h;obtain⟨tv,hb,⟨⟨h200,hgood⟩,htk⟩,hi⟩:=h;have b0:w.cell? ⟨B,0,none⟩=some tv:=by rw[Lib.cell_of_heap hb]; rfl
 have b1:w.cell? ⟨B,1,none⟩=some (.int .i64 i):=by rw[Lib.cell_of_heap hb]; rfl
 have hfz:w.frozen? ⟨B,1,none⟩=false:=Lib.frozen_of_heap hb 1
 by_cases hlt2:i<l.length
 ·rcases htk with ⟨rfl,_⟩|⟨b,off,cap,rfl,hbB,hcell⟩
  ·simp at hlt2
  obtain⟨c0,c1,hsz⟩:=hcell i hlt2;have HT:=zd (zhe hlt2 k);have hne:((i:Int)==(l.length:Int))=false:=beq_eq_false_iff_ne.2 (by omega);have hlt3:(i:Int)<(l.length:Int):=by omega
  have HBk:=zd hb;have HTk:Hid (Qe B w (.slice (some ⟨b,off,none⟩) l.length cap) l):=⟨⟨h200,hgood⟩,Or.inr ⟨b,off,cap,rfl,hbB,hcell⟩⟩
  have HN1:=zd (zcE HBk.out HTk.out hlt2);clear hcell hb hgood;generalize l[i].1=kd at *;generalize l[i].2=tx at *
  by_cases hk:kd=k
  ·subst hk
   rw[if_pos rfl] at HT;have hbn2:b≠B:=by omega
   go_enter Tryz.func238,Tryz.ntmps238;go_wp2_with fail
   go_quiet (fail)
   go_wp2_with fail
   go_quiet (fail)
   go_wp2_with fail;go_ret2;exact⟨(((Moved.refl B w).drewN _).set 1 _).drewN _,Or.inr ⟨tx,HT.out,hsz,rfl,HN1.out⟩⟩
  ·have hk':(kd != k)=true:=bne_iff_ne.2 hk
   rw[if_neg hk] at HT;clear hk;go_enter Tryz.func238,Tryz.ntmps238;go_wp2_with fail
   go_quiet (fail)
   go_wp2_with fail;go_ret2;exact⟨(Moved.refl B w).drewN _,Or.inl ⟨HT.out,rfl,HA.out⟩⟩
 ·have hie:i=l.length:=by omega
  have hne:((i:Int)==(l.length:Int))=true:=by rw[hie]; simp
  have HR:=zd (zfS hlt2 k);obtain⟨a,cap,rfl⟩:∃a cap,tv=.slice a l.length cap:=by
   rcases htk with ⟨rfl,a,cap,rfl⟩|⟨b,off,cap,rfl,_,_⟩
   ·exact⟨a,cap,rfl⟩
   ·exact⟨_,cap,rfl⟩
  clear htk hie hlt2 hb hgood;go_enter Tryz.func238,Tryz.ntmps238;go_wp2_with fail
  go_quiet (fail)
  go_wp2_with fail;go_ret2;exact⟨(Moved.refl B w).drewN _,Or.inl ⟨HR.out,rfl,HA.out⟩⟩
theorem zhV {B:Nat} {l:zB} {i:Nat} {w:World} (h:zv B l i w) {j:Nat} {t:ByteArray} (ht:vS l j 2=some t):jr t=true:=by
 obtain⟨tv,_,⟨⟨_,hgood⟩,_⟩,_⟩:=h;unfold vS at ht
 split at ht
 ·rename_i u hu
  split at ht
  ·rename_i hk
   injection ht with ht
   subst ht;exact hgood u (List.mem_of_getElem? hu) hk
  ·cases ht
 ·cases ht
theorem km (B:Nat) (l:zB) (i:Nat) (w:World) (h:zv B l i w) :
  Calls Tryz.prog 164 #[.pointer (some ⟨B,0,none⟩)] w fun e w'=>Moved B w w'/\
   ((yM l i=none/\∃t i',e=.returned (.tuple #[.string t,.bool false])/\zv B l i' w')\/∃t,yM l i=some t/\zf t=true/\e=.returned (.tuple #[.string t,.bool true])/\zv B l (i+1) w'):=by
 have HH:=zd h;have HI:Hid (yM l i=match vS l i 1 with|some t=>if zf t=true then some t else none|none=>none):=rfl;clear h;go_enter Tryz.func164,Tryz.ntmps164;go_wp2_with fail;refine (VT B l i 1 w HH.out).mono ?_;rintro e w1 ⟨hm,⟨ht,rfl,hr⟩|⟨t,ht,hsz,rfl,hr⟩⟩
 ·rw[ht] at HI
  have HM:=zd hm;have HR:=zd hr;clear hm hr ht;go_wp2_with fail;go_ret2;exact⟨HM.out,Or.inl ⟨HI.out,_,_,rfl,HR.out⟩⟩
 ·rw[ht] at HI
  have HM:=zd hm;have HR:=zd hr;clear hm hr ht;have hlt:=xC HR.out
  cases hi:zf t
  ·have HI':Hid (yM l i=none):=HI.out.trans (if_neg (by rw[hi]; simp))
   go_wp2_with fail;refine (zX t hsz _).mono ?_;rintro e w2 ⟨rfl,q⟩;rw[hi];have HM2:=zd (HM.out.trans (Moved.of_below q (by omega)));have HR2:=zd (zS HR.out q);clear q;go_wp2_with fail;go_ret2;exact⟨HM2.out,Or.inl ⟨HI'.out,_,_,rfl,HR2.out⟩⟩
  ·have HI':Hid (yM l i=some t):=HI.out.trans (if_pos hi)
   have HOk:=zd hi;go_wp2_with fail;refine (zX t hsz _).mono ?_;rintro e w2 ⟨rfl,q⟩;rw[hi];have HM2:=zd (HM.out.trans (Moved.of_below q (by omega)));have HR2:=zd (zS HR.out q);clear q hi;go_wp2_with fail;go_ret2;exact⟨HM2.out,Or.inr ⟨t,HI'.out,HOk.out,rfl,HR2.out⟩⟩
theorem Kw (B:Nat) (l:zB) (i:Nat) (w:World) (h:zv B l i w) :
  Calls Tryz.prog 240 #[.pointer (some ⟨B,0,none⟩)] w fun e w'=>Moved B w w'/\
   ((ym l i=.bad 4/\∃o t,e=.returned (.tuple #[.string o,.string t,.bool false]))\/∃o t j,ym l i=.ok (o,t) j/\zD o=true/\zf t=true/\e=.returned (.tuple #[.string o,.string t,.bool true])/\zv B l j w'):=by
 have HH:=zd h;clear h;go_enter Tryz.func240,Tryz.ntmps240;go_wp2_with fail;refine (km B l i w HH.out).mono ?_;rintro e w1 ⟨hm,⟨hi,t,i',rfl,hr⟩|⟨t,hi,hok,rfl,hr⟩⟩
 ·have HN:Hid (ym l i=.bad 4):=by show _=_; unfold ym; rw[hi]
  have HM:=zd hm;clear hm hr hi;go_wp2_with fail;exact bodyPost_ret (v:=.tuple #[.string ⟨#[]⟩,.string t,.bool false]) (by simp[results,Tryz.results240,go_sem]) rfl ⟨HM.out,Or.inl ⟨HN.out,_,_,rfl⟩⟩
 ·have HM:=zd hm
  have HR:=zd hr;have HOk:=zd hok;have HN:Hid (ym l i=if sgn l (i+1) [46]=true then (match yM l (i+2) with|none=>.bad 4|some m=>.ok (t,m) (i+3)) else .ok (zL,t) (i+1)):=by show _=_; unfold ym; rw[hi] <;> rfl
  clear hm hr hi hok;go_wp2_with fail;refine (qh B l (i+1) ⟨#[46]⟩ w1 HR.out).mono ?_;rintro e w2 ⟨rfl,q1,q2⟩;have HM2:=zd (HM.out.trans q2);clear q2
  cases hs:sgn l (i+1) [46]
  ·have hs':sgn l (i+1) (ByteArray.mk #[46]).data.toList=false:=hs
   rw[hs'] at q1
   try rw[hs']
   have HR2:=zd q1;rw[if_neg (by rw[hs]; simp)] at HN;clear q1 hs hs';go_wp2_with fail;exact bodyPost_ret (v:=.tuple #[.string ⟨#[]⟩,.string t,.bool true]) (by simp[results,Tryz.results240,go_sem]) rfl ⟨HM2.out,Or.inr ⟨_,_,_,HN.out,by rfl,HOk.out,rfl,HR2.out⟩⟩
  ·have hs':sgn l (i+1) (ByteArray.mk #[46]).data.toList=true:=hs
   rw[hs'] at q1
   try rw[hs']
   have HR2:=zd q1;rw[if_pos hs] at HN;clear q1 hs hs';go_wp2_with fail;refine (km B l (i+1+1) w2 HR2.out).mono ?_;rintro e w3 ⟨hm,⟨hi,m,i',rfl,hr⟩|⟨m,hi,hok,rfl,hr⟩⟩
   ·rw[hi] at HN
    have HM3:=zd (HM2.out.trans hm);clear hm hr hi;go_wp2_with fail;exact bodyPost_ret (v:=.tuple #[.string t,.string m,.bool false]) (by simp[results,Tryz.results240,go_sem]) rfl ⟨HM3.out,Or.inl ⟨HN.out,_,_,rfl⟩⟩
   ·rw[hi] at HN
    have HM3:=zd (HM2.out.trans hm);have HR3:=zd hr;have HOk2:=zd hok;have HNo:Hid (zD t=true):=by show _=_; unfold zD; rw[HOk.out]; simp
    clear hm hr hi hok;go_wp2_with fail;exact bodyPost_ret (v:=.tuple #[.string t,.string m,.bool true]) (by simp[results,Tryz.results240,go_sem]) rfl ⟨HM3.out,Or.inr ⟨_,_,_,HN.out,HNo.out,HOk2.out,rfl,HR3.out⟩⟩
theorem Yx (a b:Nat):((a:Int)==(b:Int))=(a==b):=by
 rw[Bool.eq_iff_iff,beq_iff_eq,beq_iff_eq]; omega
theorem yh (s:ByteArray) (hs:s.size<=maxLen) (w:World):Calls Tryz.prog 136 #[.string s] w fun e w'=>e=.returned (.bool (zD s))/\Below w.heap.size w w':=by
 have HN:Hid (zD s=((s.toList==[])||zf s)):=by show _=_; rw[vz]; rfl
 cases h:(s.toList==[])
 ·rw[h] at HN
  go_enter Tryz.func136,Tryz.ntmps136;go_wp2_with fail;refine (zX s hs _).mono ?_;rintro e w' ⟨rfl,hb⟩
  go_wp2
  go_ret;exact⟨by rw[HN.out]; rfl,hb⟩
 ·rw[h] at HN
  go_enter Tryz.func136,Tryz.ntmps136;go_wp2_with fail;go_ret;exact⟨by rw[HN.out]; rfl,Below.refl _ _⟩
theorem Yy (k:Int) (f n:ByteArray) (a:Option Addr) (c cap:Nat) (hf:f.size<=maxLen) (hn:n.size<=maxLen) (w:World) :
  Calls Tryz.prog 206 #[.agg #[.int .i64 k,.string f,.string n,.slice a c cap]] w fun e w'=>e=.returned (.bool (jc k f n c))/\Below w.heap.size w w':=by
 have HB:Hid (Below w.heap.size w (w.alloc (.cells #[.int .i64 k,.string f,.string n,.slice a c cap] 67))):=(Below.refl _ _).alloc (Nat.le_refl _) _;have HNN:=zd (vz n []);have HNF:=zd (vz f []);have H1:=zd (Yx c 1);have H0:=zd (Yx c 0)
 by_cases h3:k=3
 ·subst h3
  have HT:Hid (jc 3 f n c=(((c:Int)==1)&&((n.toList==[])&&(f.toList==[])))):=by show _=_; rw[HNN.out,HNF.out]; exact congrArg (·&&_) H1.out.symm
  cases hc1:((c:Int)==1) <;> cases hn1:(n.toList==[]) <;> cases hf1:(f.toList==[])
  all_goals
   rw[hc1,hn1,hf1] at HT;go_enter Tryz.func206,Tryz.ntmps206;go_wp2_with fail;go_ret;exact⟨by rw[HT.out]; rfl,HB.out⟩
 have h3':(k==3)=false:=beq_eq_false_iff_ne.2 h3
 by_cases h4:k=4
 ·subst h4
  have HR:Hid (jc 4 f n c=(((c:Int)==0)&&(zf n&&zD f))):=by show _=_; exact congrArg (·&&_) H0.out.symm
  cases hc0:((c:Int)==0)
  ·rw[hc0] at HR
   go_enter Tryz.func206,Tryz.ntmps206;go_wp2_with fail;go_ret;exact⟨by rw[HR.out]; rfl,HB.out⟩
  ·rw[hc0] at HR
   cases hi:zf n
   ·rw[hi] at HR
    go_enter Tryz.func206,Tryz.ntmps206;go_wp2_with fail;refine (zX n hn _).mono ?_;rintro e w' ⟨rfl,hb⟩;rw[hi]
    go_wp2
    go_ret;exact⟨by rw[HR.out]; rfl,HB.out.trans (hb.mono (by simp))⟩
   ·rw[hi] at HR
    go_enter Tryz.func206,Tryz.ntmps206;go_wp2_with fail;refine (zX n hn _).mono ?_;rintro e w1 ⟨rfl,hb⟩;rw[hi];have c1:w1.cell? ⟨w.heap.size,1,none⟩=some (.string f):=(hb.cell (by simp)).trans (World.cell?_alloc_at _ _ _ _ rfl);have HB1:=zd (HB.out.trans (hb.mono (by simp)));clear hb;go_wp2_with fail;refine (yh f hf _).mono ?_;rintro e w2 ⟨rfl,hb2⟩
    go_wp2
    go_ret;exact⟨by rw[HR.out]; rfl,HB1.out.trans (hb2.mono HB1.out.size)⟩
 ·have h4':(k==4)=false:=beq_eq_false_iff_ne.2 h4
  have HT:Hid (jc k f n c=(((c:Int)==0)&&((n.toList==[])&&(f.toList==[])))):=by show _=_; unfold jc; rw[if_neg h3,if_neg h4,HNN.out,HNF.out]; exact congrArg (·&&_) H0.out.symm
  clear h3 h4
  cases hc0:((c:Int)==0) <;> cases hn1:(n.toList==[]) <;> cases hf1:(f.toList==[])
  all_goals
   rw[hc0,hn1,hf1] at HT;go_enter Tryz.func206,Tryz.ntmps206;go_wp2_with fail;go_ret;exact⟨by rw[HT.out]; rfl,HB.out⟩
theorem Zp (k m:Int) (f s:ByteArray) (v:Value) (hf:f.size<=maxLen) (hs:s.size<=maxLen) (w:World) :
  Calls Tryz.prog 209 #[.agg #[.int .i64 k,.int .i64 m,.string f,.string s,v]] w fun e w'=>e=.returned (.bool (xl k f s))/\Below w.heap.size w w':=by
 have HB:Hid (Below w.heap.size w (w.alloc (.cells #[.int .i64 k,.int .i64 m,.string f,.string s,v] 70))):=(Below.refl _ _).alloc (Nat.le_refl _) _;have HNS:=zd (vz s []);have HNF:=zd (vz f [])
 by_cases h2:k=2
 ·subst h2
  have HT:Hid (xl 2 f s=(yk s&&(f.toList==[]))):=by show _=_; rw[HNF.out]; rfl
  cases hq:yk s
  ·rw[hq] at HT
   go_enter Tryz.func209,Tryz.ntmps209;go_wp2_with fail;refine (QK s hs _).mono ?_;rintro e w' ⟨rfl,hb⟩;rw[hq]
   go_wp2
   go_ret;exact⟨by rw[HT.out]; rfl,HB.out.trans (hb.mono (by simp))⟩
  ·cases hf1:(f.toList==[])
   all_goals
    rw[hq,hf1] at HT;go_enter Tryz.func209,Tryz.ntmps209;go_wp2_with fail;refine (QK s hs _).mono ?_;rintro e w1 ⟨rfl,hb⟩;rw[hq];have c1:w1.cell? ⟨w.heap.size,2,none⟩=some (.string f):=(hb.cell (by simp)).trans (World.cell?_alloc_at _ _ _ _ rfl);have HB1:=zd (HB.out.trans (hb.mono (by simp)));clear hb
    go_wp2
    go_ret;exact⟨by rw[HT.out]; rfl,HB1.out⟩
 have h2':(k==2)=false:=beq_eq_false_iff_ne.2 h2
 by_cases h3:k=3
 ·subst h3
  have HT:Hid (xl 3 f s=(zf s&&(f.toList==[]))):=by show _=_; rw[HNF.out]; rfl
  cases hq:zf s
  ·rw[hq] at HT
   go_enter Tryz.func209,Tryz.ntmps209;go_wp2_with fail;refine (zX s hs _).mono ?_;rintro e w' ⟨rfl,hb⟩;rw[hq]
   go_wp2
   go_ret;exact⟨by rw[HT.out]; rfl,HB.out.trans (hb.mono (by simp))⟩
  ·cases hf1:(f.toList==[])
   all_goals
    rw[hq,hf1] at HT;go_enter Tryz.func209,Tryz.ntmps209;go_wp2_with fail;refine (zX s hs _).mono ?_;rintro e w1 ⟨rfl,hb⟩;rw[hq];have c1:w1.cell? ⟨w.heap.size,2,none⟩=some (.string f):=(hb.cell (by simp)).trans (World.cell?_alloc_at _ _ _ _ rfl);have HB1:=zd (HB.out.trans (hb.mono (by simp)));clear hb
    go_wp2
    go_ret;exact⟨by rw[HT.out]; rfl,HB1.out⟩
 have h3':(k==3)=false:=beq_eq_false_iff_ne.2 h3
 by_cases h4:k=4
 ·subst h4
  have HT:Hid (xl 4 f s=(zf s&&zD f)):=rfl
  cases hq:zf s
  ·rw[hq] at HT
   go_enter Tryz.func209,Tryz.ntmps209;go_wp2_with fail;refine (zX s hs _).mono ?_;rintro e w' ⟨rfl,hb⟩;rw[hq]
   go_wp2
   go_ret;exact⟨by rw[HT.out]; rfl,HB.out.trans (hb.mono (by simp))⟩
  ·rw[hq] at HT
   go_enter Tryz.func209,Tryz.ntmps209;go_wp2_with fail;refine (zX s hs _).mono ?_;rintro e w1 ⟨rfl,hb⟩;rw[hq];have c1:w1.cell? ⟨w.heap.size,2,none⟩=some (.string f):=(hb.cell (by simp)).trans (World.cell?_alloc_at _ _ _ _ rfl);have HB1:=zd (HB.out.trans (hb.mono (by simp)));clear hb;go_wp2_with fail;refine (yh f hf _).mono ?_;rintro e w2 ⟨rfl,hb2⟩
   go_wp2
   go_ret;exact⟨by rw[HT.out]; rfl,HB1.out.trans (hb2.mono HB1.out.size)⟩
 ·have h4':(k==4)=false:=beq_eq_false_iff_ne.2 h4
  have HT:Hid (xl k f s=((s.toList==[])&&(f.toList==[]))):=by show _=_; unfold xl; rw[if_neg h2,if_neg h3,if_neg h4,HNS.out,HNF.out]; rfl
  clear h2 h3 h4
  cases hn1:(s.toList==[]) <;> cases hf1:(f.toList==[])
  all_goals
   rw[hn1,hf1] at HT;go_enter Tryz.func209,Tryz.ntmps209;go_wp2_with fail;go_ret;exact⟨by rw[HT.out]; rfl,HB.out⟩
theorem Qq (k m:Int) (f s:ByteArray) (a:Option Addr) (c cap:Nat) (w:World) :
  Calls Tryz.prog 210 #[.agg #[.int .i64 k,.int .i64 m,.string f,.string s,.slice a c cap]] w fun e w'=>e=.returned (.bool (qe k c))/\Below w.heap.size w w':=by
 have HB:Hid (Below w.heap.size w (w.alloc (.cells #[.int .i64 k,.int .i64 m,.string f,.string s,.slice a c cap] 70))):=(Below.refl _ _).alloc (Nat.le_refl _) _
 by_cases h4:k=4
 ·subst h4
  have HT:Hid (qe 4 c=true):=rfl;go_enter Tryz.func210,Tryz.ntmps210;go_wp2_with fail;go_ret;exact⟨by rw[HT.out]; rfl,HB.out⟩
 have h4':(k==4)=false:=beq_eq_false_iff_ne.2 h4
 by_cases h6:k=6
 ·subst h6
  have HT:Hid (qe 6 c=decide (0<c)):=rfl
  by_cases h0:0<c
  ·have h0':(0:Int)<(c:Int):=by omega
   rw[show decide (0<c)=true from decide_eq_true h0] at HT;go_enter Tryz.func210,Tryz.ntmps210;go_wp2_with fail;go_ret;exact⟨by rw[HT.out]; simp[*],HB.out⟩
  ·have h0':¬(0:Int)<(c:Int):=by omega
   rw[show decide (0<c)=false from decide_eq_false h0] at HT;go_enter Tryz.func210,Tryz.ntmps210;go_wp2_with fail;go_ret;exact⟨by rw[HT.out]; simp[*],HB.out⟩
 have h6':(k==6)=false:=beq_eq_false_iff_ne.2 h6
 by_cases h5:k=5
 ·subst h5
  have HT:Hid (qe 5 c=((c:Int)==2)):=(Yx c 2).symm;go_enter Tryz.func210,Tryz.ntmps210;go_wp2_with fail;go_ret;exact⟨by rw[HT.out]; rfl,HB.out⟩
 have h5':(k==5)=false:=beq_eq_false_iff_ne.2 h5
 by_cases h7:k=7
 ·subst h7
  have HT:Hid (qe 7 c=((c:Int)==2)):=(Yx c 2).symm;go_enter Tryz.func210,Tryz.ntmps210;go_wp2_with fail;go_ret;exact⟨by rw[HT.out]; rfl,HB.out⟩
 have h7':(k==7)=false:=beq_eq_false_iff_ne.2 h7;have HT:Hid (qe k c=((c:Int)==0)):=by show _=_; unfold qe; rw[if_neg h4,if_neg h6,if_neg (by omega)]; exact (Yx c 0).symm
 clear h4 h5 h6 h7;go_enter Tryz.func210,Tryz.ntmps210;go_wp2_with fail;go_ret;exact⟨by rw[HT.out]; rfl,HB.out⟩
def zig (s:ByteArray) (v:Value):Prop:=v=.string s/\s.size<=maxLen
theorem zfT (g:Nat) (lb:Array Value) (eg:∀args w,(callFunc g args).run Tryz.prog w=.ok (.enter g args) w) (f:Ty->Int) (S:Nat->Prop) (l:List Ty) (v:Value) (w:World) (hS:∀b,S b->b<w.heap.size) (hl:ze S (jD S w) 4 l v)
  (hg:∀t∈l,∀(W:World) (u:Value),Below w.heap.size w W->vi S W t u->Calls Tryz.prog g (#[u]++lb) W fun e w'=>e=.returned (.int .i64 (f t))/\Below W.heap.size W w') :
  Calls Tryz.prog 207 #[v,.func (.func g) #[] lb] w fun e w'=>e=.returned (.int .i64 (zt f l))/\Below w.heap.size w w':=by
 obtain⟨a,cap,rfl,⟨hlen,hlenC⟩,hrow⟩:=hl;unfold maxLen at hlen;have HG:=zd hg;clear hg
 rcases hrow with h0|⟨b,off,rfl,hb,hrow⟩
 ·have hnil:l=[]:=List.eq_nil_of_length_eq_zero h0
  subst hnil;clear HG eg;go_enter Tryz.func207,Tryz.ntmps207
  go_wp2
  refine wp_loop_rounds 1 ?_;rw[rounds_succ]
  go_wp2
  go_ret;exact⟨rfl,Below.refl _ _⟩
 have hbw:=hS b hb;have HR:=zd hrow;clear hrow;go_enter Tryz.func207,Tryz.ntmps207
 go_wp2
 go_loopw [10] (fun i wr=>∃k:Nat,k<=l.length/\i=.int .i64 k/\(∀j (hj:j<l.length),j<k->f l[j]=0)/\Below w.heap.size w wr) (fun i _=>l.length - (intOf i).toNat)
 case atStart=>exact⟨0,Nat.zero_le _,rfl,fun j _ h=>absurd h (by omega),Below.refl _ _⟩
 case round=>
  obtain⟨k,hk,rfl,hall,hbl⟩:=hrel;have HA:=zd hall;clear hall;have hbs:=hbl.size
  by_cases hlt:k<l.length
  ·have hkeep:Keeps S S w wr:=Keeps.below hbl hS
   obtain⟨kd,fo,na,va,c0,c1,c2,c3,hcs⟩:=qL.1 (HR.out.get k hlt);obtain⟨va1,va2,va3,rfl⟩:=hcs.slice;have d0:=(hbl.cell (p:=⟨b,off+k * 4,none⟩) hbw).trans c0;have d1:=(hbl.cell (p:=⟨b,off+k * 4+1,none⟩) hbw).trans c1;have d2:=(hbl.cell (p:=⟨b,off+k * 4+2,none⟩) hbw).trans c2;have d3:=(hbl.cell (p:=⟨b,off+k * 4+3,none⟩) hbw).trans c3;have HC:=zd ((hcs.keep hkeep).keep (Keeps.below ((Below.refl wr.heap.size wr).alloc (Nat.le_refl _) (.cells #[.int .i64 kd,.string fo,.string na,.slice va1 va2 va3] 67)) fun b h=>Nat.lt_of_lt_of_le (hS b h) hbs));clear c0 c1 c2 c3 hcs;have HL:=zd (hbl.alloc hbs (.cells #[.int .i64 kd,.string fo,.string na,.slice va1 va2 va3] 67));have cG:=HG.out l[k] (List.getElem_mem hlt) _ (.agg #[.int .i64 kd,.string fo,.string na,.slice va1 va2 va3]) HL.out ⟨_,_,_,_,rfl,HC.out⟩;clear HG HR
   by_cases hz:f l[k]=0
   ·have hz':(f l[k] != 0)=false:=by simp[hz]
    have HN:Hid (∀j (hj:j<l.length),j<k+1->f l[j]=0):=fun j hj hjk=>by
     by_cases e:j=k
     ·subst e; exact hz
     ·exact HA.out j hj (by omega)
    clear hz;generalize f l[k]=fk at *;go_wp2_with (go_at_fn g; refine cG.mono ?_; rintro e w' ⟨rfl,hb'⟩);exact⟨⟨k+1,by omega,by go_num,HN.out,HL.out.trans (hb'.mono (by simp; omega))⟩,by simp[intOf]; omega⟩
   ·have hz':(f l[k] != 0)=true:=by simp[hz]
    have HF:=zd (jn f l k hlt (fun j hj=>HA.out j (by omega) hj) hz);clear hz;generalize f l[k]=fk at *;go_wp2_with (go_at_fn g; refine cG.mono ?_; rintro e w' ⟨rfl,hb'⟩);go_ret;exact⟨by rw[HF.out]; rfl,HL.out.trans (hb'.mono (by simp; omega))⟩
  ·have HF:=zd (qW f l fun j hj=>HA.out j hj (by omega))
   clear HG HR eg
   go_wp2
   go_ret;exact⟨by rw[HF.out]; rfl,hbl⟩
theorem zfU (g:Nat) (lb:Array Value) (eg:∀args w,(callFunc g args).run Tryz.prog w=.ok (.enter g args) w) (f:Ex->Int) (S:Nat->Prop) (l:List Ex) (v:Value) (w:World) (hS:∀b,S b->b<w.heap.size) (hl:ze S (yB S w) 5 l v)
  (hg:∀t∈l,∀(W:World) (u:Value),Below w.heap.size w W->yC S W t u->Calls Tryz.prog g (#[u]++lb) W fun e w'=>e=.returned (.int .i64 (f t))/\Below W.heap.size W w') :
  Calls Tryz.prog 211 #[v,.func (.func g) #[] lb] w fun e w'=>e=.returned (.int .i64 (zt f l))/\Below w.heap.size w w':=by
 obtain⟨a,cap,rfl,⟨hlen,hlenC⟩,hrow⟩:=hl;unfold maxLen at hlen;have HG:=zd hg;clear hg
 rcases hrow with h0|⟨b,off,rfl,hb,hrow⟩
 ·have hnil:l=[]:=List.eq_nil_of_length_eq_zero h0
  subst hnil;clear HG eg;go_enter Tryz.func211,Tryz.ntmps211
  go_wp2
  refine wp_loop_rounds 1 ?_;rw[rounds_succ]
  go_wp2
  go_ret;exact⟨rfl,Below.refl _ _⟩
 have hbw:=hS b hb;have HR:=zd hrow;clear hrow;go_enter Tryz.func211,Tryz.ntmps211
 go_wp2
 go_loopw [10] (fun i wr=>∃k:Nat,k<=l.length/\i=.int .i64 k/\(∀j (hj:j<l.length),j<k->f l[j]=0)/\Below w.heap.size w wr) (fun i _=>l.length - (intOf i).toNat)
 case atStart=>exact⟨0,Nat.zero_le _,rfl,fun j _ h=>absurd h (by omega),Below.refl _ _⟩
 case round=>
  obtain⟨k,hk,rfl,hall,hbl⟩:=hrel;have HA:=zd hall;clear hall;have hbs:=hbl.size
  by_cases hlt:k<l.length
  ·have hkeep:Keeps S S w wr:=Keeps.below hbl hS
   obtain⟨kd,nu,fo,na,va,c0,c1,c2,c3,c4,hcs⟩:=qU.1 (HR.out.get k hlt);obtain⟨va1,va2,va3,rfl⟩:=hcs.slice;have d0:=(hbl.cell (p:=⟨b,off+k * 5,none⟩) hbw).trans c0;have d1:=(hbl.cell (p:=⟨b,off+k * 5+1,none⟩) hbw).trans c1;have d2:=(hbl.cell (p:=⟨b,off+k * 5+2,none⟩) hbw).trans c2;have d3:=(hbl.cell (p:=⟨b,off+k * 5+3,none⟩) hbw).trans c3;have d4:=(hbl.cell (p:=⟨b,off+k * 5+4,none⟩) hbw).trans c4;have HC:=zd ((hcs.keep hkeep).keep (Keeps.below ((Below.refl wr.heap.size wr).alloc (Nat.le_refl _) (.cells #[.int .i64 kd,.int .i64 nu,.string fo,.string na,.slice va1 va2 va3] 70)) fun b h=>Nat.lt_of_lt_of_le (hS b h) hbs));clear c0 c1 c2 c3 c4 hcs;have HL:=zd (hbl.alloc hbs (.cells #[.int .i64 kd,.int .i64 nu,.string fo,.string na,.slice va1 va2 va3] 70));have cG:=HG.out l[k] (List.getElem_mem hlt) _ (.agg #[.int .i64 kd,.int .i64 nu,.string fo,.string na,.slice va1 va2 va3]) HL.out ⟨_,_,_,_,_,rfl,HC.out⟩;clear HG HR
   by_cases hz:f l[k]=0
   ·have hz':(f l[k] != 0)=false:=by simp[hz]
    have HN:Hid (∀j (hj:j<l.length),j<k+1->f l[j]=0):=fun j hj hjk=>by
     by_cases e:j=k
     ·subst e; exact hz
     ·exact HA.out j hj (by omega)
    clear hz;generalize f l[k]=fk at *;go_wp2_with (go_at_fn g; refine cG.mono ?_; rintro e w' ⟨rfl,hb'⟩);exact⟨⟨k+1,by omega,by go_num,HN.out,HL.out.trans (hb'.mono (by simp; omega))⟩,by simp[intOf]; omega⟩
   ·have hz':(f l[k] != 0)=true:=by simp[hz]
    have HF:=zd (jn f l k hlt (fun j hj=>HA.out j (by omega) hj) hz);clear hz;generalize f l[k]=fk at *;go_wp2_with (go_at_fn g; refine cG.mono ?_; rintro e w' ⟨rfl,hb'⟩);go_ret;exact⟨by rw[HF.out]; rfl,HL.out.trans (hb'.mono (by simp; omega))⟩
  ·have HF:=zd (qW f l fun j hj=>HA.out j hj (by omega))
   clear HG HR eg
   go_wp2
   go_ret;exact⟨by rw[HF.out]; rfl,hbl⟩
theorem QM (g:Nat) (lb:Array Value) (eg:∀args w,(callFunc g args).run Tryz.prog w=.ok (.enter g args) w) (f:Fd->Int) (S:Nat->Prop) (l:List Fd) (v:Value) (w:World) (hS:∀b,S b->b<w.heap.size) (hl:ze S (qO S w) 5 l v)
  (hg:∀t∈l,∀(W:World) (u:Value),Below w.heap.size w W->XQ S W t u->Calls Tryz.prog g (#[u]++lb) W fun e w'=>e=.returned (.int .i64 (f t))/\Below W.heap.size W w') :
  Calls Tryz.prog 77 #[v,.func (.func g) #[] lb] w fun e w'=>e=.returned (.int .i64 (zt f l))/\Below w.heap.size w w':=by
 obtain⟨a,cap,rfl,⟨hlen,hlenC⟩,hrow⟩:=hl;unfold maxLen at hlen;have HG:=zd hg;clear hg
 rcases hrow with h0|⟨b,off,rfl,hb,hrow⟩
 ·have hnil:l=[]:=List.eq_nil_of_length_eq_zero h0
  subst hnil;clear HG eg;go_enter Tryz.func77,Tryz.ntmps77
  go_wp2
  refine wp_loop_rounds 1 ?_;rw[rounds_succ]
  go_wp2
  go_ret;exact⟨rfl,Below.refl _ _⟩
 have hbw:=hS b hb;have HR:=zd hrow;clear hrow;go_enter Tryz.func77,Tryz.ntmps77
 go_wp2
 go_loopw [10] (fun i wr=>∃k:Nat,k<=l.length/\i=.int .i64 k/\(∀j (hj:j<l.length),j<k->f l[j]=0)/\Below w.heap.size w wr) (fun i _=>l.length - (intOf i).toNat)
 case atStart=>exact⟨0,Nat.zero_le _,rfl,fun j _ h=>absurd h (by omega),Below.refl _ _⟩
 case round=>
  obtain⟨k,hk,rfl,hall,hbl⟩:=hrel;have HA:=zd hall;clear hall;have hbs:=hbl.size
  by_cases hlt:k<l.length
  ·have hkeep:Keeps S S w wr:=Keeps.below hbl hS
   obtain⟨⟨c0,hsz⟩,hty⟩:=HR.out.get k hlt;obtain⟨kd,fo,na,va,c1,c2,c3,c4,hcs⟩:=qL.1 hty;obtain⟨va1,va2,va3,rfl⟩:=hcs.slice;rw[Nat.add_assoc] at c2 c3 c4;have d0:=(hbl.cell (p:=⟨b,off+k * 5,none⟩) hbw).trans c0;have d1:=(hbl.cell (p:=⟨b,off+k * 5+1,none⟩) hbw).trans c1;have d2:=(hbl.cell (p:=⟨b,off+k * 5+2,none⟩) hbw).trans c2;have d3:=(hbl.cell (p:=⟨b,off+k * 5+3,none⟩) hbw).trans c3;have d4:=(hbl.cell (p:=⟨b,off+k * 5+4,none⟩) hbw).trans c4;have HC:=zd ((hcs.keep hkeep).keep (Keeps.below ((Below.refl wr.heap.size wr).alloc (Nat.le_refl _) (.cells #[.string l[k].name,.int .i64 kd,.string fo,.string na,.slice va1 va2 va3] 86)) fun b h=>Nat.lt_of_lt_of_le (hS b h) hbs));clear c0 c1 c2 c3 c4 hcs hty;have HL:=zd (hbl.alloc hbs (.cells #[.string l[k].name,.int .i64 kd,.string fo,.string na,.slice va1 va2 va3] 86));have cG:=HG.out l[k] (List.getElem_mem hlt) _ (.agg #[.string l[k].name,.int .i64 kd,.string fo,.string na,.slice va1 va2 va3]) HL.out ⟨_,_,_,_,rfl,hsz,HC.out⟩;clear HG HR
   by_cases hz:f l[k]=0
   ·have hz':(f l[k] != 0)=false:=by simp[hz]
    have HN:Hid (∀j (hj:j<l.length),j<k+1->f l[j]=0):=fun j hj hjk=>by
     by_cases e:j=k
     ·subst e; exact hz
     ·exact HA.out j hj (by omega)
    clear hz;generalize f l[k]=fk at *;go_wp2_with (go_at_fn g; refine cG.mono ?_; rintro e w' ⟨rfl,hb'⟩);exact⟨⟨k+1,by omega,by go_num,HN.out,HL.out.trans (hb'.mono (by simp; omega))⟩,by simp[intOf]; omega⟩
   ·have hz':(f l[k] != 0)=true:=by simp[hz]
    have HF:=zd (jn f l k hlt (fun j hj=>HA.out j (by omega) hj) hz);clear hz;generalize f l[k]=fk at *;go_wp2_with (go_at_fn g; refine cG.mono ?_; rintro e w' ⟨rfl,hb'⟩);go_ret;exact⟨by rw[HF.out]; rfl,HL.out.trans (hb'.mono (by simp; omega))⟩
  ·have HF:=zd (qW f l fun j hj=>HA.out j hj (by omega))
   clear HG HR eg
   go_wp2
   go_ret;exact⟨by rw[HF.out]; rfl,hbl⟩
theorem zfV (g:Nat) (lb:Array Value) (eg:∀args w,(callFunc g args).run Tryz.prog w=.ok (.enter g args) w) (f:Fu->Int) (S:Nat->Prop) (l:List Fu) (v:Value) (w:World) (hS:∀b,S b->b<w.heap.size) (hl:ze S (kG S w) 12 l v)
  (hg:∀t∈l,∀(W:World) (u:Value),Below w.heap.size w W->Xo S W t u->Calls Tryz.prog g (#[u]++lb) W fun e w'=>e=.returned (.int .i64 (f t))/\Below W.heap.size W w') :
  Calls Tryz.prog 79 #[v,.func (.func g) #[] lb] w fun e w'=>e=.returned (.int .i64 (zt f l))/\Below w.heap.size w w':=by
 obtain⟨a,cap,rfl,⟨hlen,hlenC⟩,hrow⟩:=hl;unfold maxLen at hlen;have HG:=zd hg;clear hg
 rcases hrow with h0|⟨b,off,rfl,hb,hrow⟩
 ·have hnil:l=[]:=List.eq_nil_of_length_eq_zero h0
  subst hnil;clear HG eg;go_enter Tryz.func79,Tryz.ntmps79
  go_wp2
  refine wp_loop_rounds 1 ?_;rw[rounds_succ]
  go_wp2
  go_ret;exact⟨rfl,Below.refl _ _⟩
 have hbw:=hS b hb;have HR:=zd hrow;clear hrow;go_enter Tryz.func79,Tryz.ntmps79
 go_wp2
 go_loopw [10] (fun i wr=>∃k:Nat,k<=l.length/\i=.int .i64 k/\(∀j (hj:j<l.length),j<k->f l[j]=0)/\Below w.heap.size w wr) (fun i _=>l.length - (intOf i).toNat)
 case atStart=>exact⟨0,Nat.zero_le _,rfl,fun j _ h=>absurd h (by omega),Below.refl _ _⟩
 case round=>
  obtain⟨k,hk,rfl,hall,hbl⟩:=hrel;have HA:=zd hall;clear hall;have hbs:=hbl.size
  by_cases hlt:k<l.length
  ·have hkeep:Keeps S S w wr:=Keeps.below hbl hS
   obtain⟨⟨c0,hsz⟩,⟨c1,hsz1⟩,⟨vp,c2,hps⟩,hty,hex⟩:=HR.out.get k hlt;obtain⟨kd,fo,na,va,c3,c4,c5,c6,hcs⟩:=qL.1 hty;obtain⟨ke,ne,fe,se,ve,c7,c8,c9,c10,c11,hce⟩:=qU.1 hex;obtain⟨va1,va2,va3,rfl⟩:=hcs.slice;obtain⟨vp1,vp2,vp3,rfl⟩:=hps.slice;obtain⟨ve1,ve2,ve3,rfl⟩:=hce.slice;rw[Nat.add_assoc] at c4 c5 c6 c8 c9 c10 c11;have d0:=(hbl.cell (p:=⟨b,off+k * 12,none⟩) hbw).trans c0;have d1:=(hbl.cell (p:=⟨b,off+k * 12+1,none⟩) hbw).trans c1;have d2:=(hbl.cell (p:=⟨b,off+k * 12+2,none⟩) hbw).trans c2;have d3:=(hbl.cell (p:=⟨b,off+k * 12+3,none⟩) hbw).trans c3;have d4:=(hbl.cell (p:=⟨b,off+k * 12+4,none⟩) hbw).trans c4;have d5:=(hbl.cell (p:=⟨b,off+k * 12+5,none⟩) hbw).trans c5;have d6:=(hbl.cell (p:=⟨b,off+k * 12+6,none⟩) hbw).trans c6;have d7:=(hbl.cell (p:=⟨b,off+k * 12+7,none⟩) hbw).trans c7;have d8:=(hbl.cell (p:=⟨b,off+k * 12+8,none⟩) hbw).trans c8;have d9:=(hbl.cell (p:=⟨b,off+k * 12+9,none⟩) hbw).trans c9;have d10:=(hbl.cell (p:=⟨b,off+k * 12+10,none⟩) hbw).trans c10;have d11:=(hbl.cell (p:=⟨b,off+k * 12+11,none⟩) hbw).trans c11;have hk2:Keeps S S wr (wr.alloc (.cells #[.string l[k].name,.string l[k].var,.slice vp1 vp2 vp3,.int .i64 kd,.string fo,.string na,.slice va1 va2 va3,.int .i64 ke,.int .i64 ne,.string fe,.string se,.slice ve1 ve2 ve3] 72)):=Keeps.below ((Below.refl wr.heap.size wr).alloc (Nat.le_refl _) _) fun b h=>Nat.lt_of_lt_of_le (hS b h) hbs
   have HC:=zd ((hcs.keep hkeep).keep hk2);have HC2:=zd ((hce.keep hkeep).keep hk2);have HC3:=zd (zP hk2 (zP hkeep hps));clear c0 c1 c2 c3 c4 c5 c6 c7 c8 c9 c10 c11 hcs hty hps hce hex hk2;have HL:=zd (hbl.alloc hbs (.cells #[.string l[k].name,.string l[k].var,.slice vp1 vp2 vp3,.int .i64 kd,.string fo,.string na,.slice va1 va2 va3,.int .i64 ke,.int .i64 ne,.string fe,.string se,.slice ve1 ve2 ve3] 72));have cG:=HG.out l[k] (List.getElem_mem hlt) _ (.agg #[.string l[k].name,.string l[k].var,.slice vp1 vp2 vp3,.int .i64 kd,.string fo,.string na,.slice va1 va2 va3,.int .i64 ke,.int .i64 ne,.string fe,.string se,.slice ve1 ve2 ve3]) HL.out ⟨_,_,_,_,_,_,_,_,_,_,rfl,hsz,hsz1,HC3.out,HC.out,HC2.out⟩;clear HG HR
   by_cases hz:f l[k]=0
   ·have hz':(f l[k] != 0)=false:=by simp[hz]
    have HN:Hid (∀j (hj:j<l.length),j<k+1->f l[j]=0):=fun j hj hjk=>by
     by_cases e:j=k
     ·subst e; exact hz
     ·exact HA.out j hj (by omega)
    clear hz;generalize f l[k]=fk at *;go_wp2_with (go_at_fn g; refine cG.mono ?_; rintro e w' ⟨rfl,hb'⟩);exact⟨⟨k+1,by omega,by go_num,HN.out,HL.out.trans (hb'.mono (by simp; omega))⟩,by simp[intOf]; omega⟩
   ·have hz':(f l[k] != 0)=true:=by simp[hz]
    have HF:=zd (jn f l k hlt (fun j hj=>HA.out j (by omega) hj) hz);clear hz;generalize f l[k]=fk at *;go_wp2_with (go_at_fn g; refine cG.mono ?_; rintro e w' ⟨rfl,hb'⟩);go_ret;exact⟨by rw[HF.out]; rfl,HL.out.trans (hb'.mono (by simp; omega))⟩
  ·have HF:=zd (qW f l fun j hj=>HA.out j hj (by omega))
   clear HG HR eg
   go_wp2
   go_ret;exact⟨by rw[HF.out]; rfl,hbl⟩
theorem Yz (g:Nat) (lb:Array Value) (eg:∀args w,(callFunc g args).run Tryz.prog w=.ok (.enter g args) w) (f:ByteArray->Int) (S:Nat->Prop) (l:List ByteArray) (v:Value) (w:World) (hS:∀b,S b->b<w.heap.size) (hl:ze S (zG w) 1 l v)
  (hg:∀t∈l,∀(W:World) (u:Value),Below w.heap.size w W->zig t u->Calls Tryz.prog g (#[u]++lb) W fun e w'=>e=.returned (.int .i64 (f t))/\Below W.heap.size W w') :
  Calls Tryz.prog 75 #[v,.func (.func g) #[] lb] w fun e w'=>e=.returned (.int .i64 (zt f l))/\Below w.heap.size w w':=by
 obtain⟨a,cap,rfl,⟨hlen,hlenC⟩,hrow⟩:=hl;unfold maxLen at hlen;have HG:=zd hg;clear hg
 rcases hrow with h0|⟨b,off,rfl,hb,hrow⟩
 ·have hnil:l=[]:=List.eq_nil_of_length_eq_zero h0
  subst hnil;clear HG eg;go_enter Tryz.func75,Tryz.ntmps75
  go_wp2
  refine wp_loop_rounds 1 ?_;rw[rounds_succ]
  go_wp2
  go_ret;exact⟨rfl,Below.refl _ _⟩
 have hbw:=hS b hb;have HR:=zd hrow;clear hrow;go_enter Tryz.func75,Tryz.ntmps75
 go_wp2
 go_loopw [10] (fun i wr=>∃k:Nat,k<=l.length/\i=.int .i64 k/\(∀j (hj:j<l.length),j<k->f l[j]=0)/\Below w.heap.size w wr) (fun i _=>l.length - (intOf i).toNat)
 case atStart=>exact⟨0,Nat.zero_le _,rfl,fun j _ h=>absurd h (by omega),Below.refl _ _⟩
 case round=>
  obtain⟨k,hk,rfl,hall,hbl⟩:=hrel;have HA:=zd hall;clear hall;have hbs:=hbl.size
  by_cases hlt:k<l.length
  ·obtain⟨c0,hsz⟩:=HR.out.get k hlt
   rw[Nat.mul_one] at c0;have d0:=(hbl.cell (p:=⟨b,off+k,none⟩) hbw).trans c0;clear c0;have cG:=HG.out l[k] (List.getElem_mem hlt) _ (.string l[k]) hbl ⟨rfl,hsz⟩;clear HG HR
   by_cases hz:f l[k]=0
   ·have hz':(f l[k] != 0)=false:=by simp[hz]
    have HN:Hid (∀j (hj:j<l.length),j<k+1->f l[j]=0):=fun j hj hjk=>by
     by_cases e:j=k
     ·subst e; exact hz
     ·exact HA.out j hj (by omega)
    clear hz;generalize f l[k]=fk at *;go_wp2_with (go_at_fn g; refine cG.mono ?_; rintro e w' ⟨rfl,hb'⟩);exact⟨⟨k+1,by omega,by go_num,HN.out,hbl.trans (hb'.mono (by omega))⟩,by simp[intOf]; omega⟩
   ·have hz':(f l[k] != 0)=true:=by simp[hz]
    have HF:=zd (jn f l k hlt (fun j hj=>HA.out j (by omega) hj) hz);clear hz;generalize f l[k]=fk at *;go_wp2_with (go_at_fn g; refine cG.mono ?_; rintro e w' ⟨rfl,hb'⟩);go_ret;exact⟨by rw[HF.out]; rfl,hbl.trans (hb'.mono (by omega))⟩
  ·have HF:=zd (qW f l fun j hj=>HA.out j hj (by omega))
   clear HG HR eg
   go_wp2
   go_ret;exact⟨by rw[HF.out]; rfl,hbl⟩
theorem z8 (fn:Fn) (first cap:Array Value) (w:World):(Instr.makeFunc fn first cap).run Tryz.prog w=.ok (.func fn first cap) w:=rfl
theorem Qr:∀(m d:Nat),10<d+m->∀(S:Nat->Prop) (t:Ty) (v:Value) (w:World),d<1000->(∀b,S b->b<w.heap.size)->vi S w t v->
  Calls Tryz.prog 135 #[v,.int .i64 d] w fun e w'=>e=.returned (.int .i64 (zl t d))/\Below w.heap.size w w':=by
 intro m
 induction m with
 |zero=>
  rintro d hd S t v w hd1 hS ⟨k,f,n,va,rfl,xs,rfl,hf,hn,hsl⟩;have hd':(10:Int)<(d:Int):=by omega
  have HF:Hid (zl (.mk k f n xs) d=1):=by show _=_; rw[zl,if_pos (by omega)]
  obtain⟨a,c,cap,rfl⟩:=hsl.slice;clear hsl;go_enter Tryz.func135,Tryz.ntmps135;go_wp2_with fail;go_ret;exact⟨by rw[HF.out]; rfl,((Below.refl _ _).alloc (Nat.le_refl _) _).alloc (by simp) _⟩
 |succ m ih=>
  rintro d hd S t v w hd1 hS ⟨k,f,n,va,rfl,xs,rfl,hf,hn,hsl⟩;have HIH:=zd ih;clear ih
  by_cases hd0:10<d
  ·have hd':(10:Int)<(d:Int):=by omega
   have HF:Hid (zl (.mk k f n xs) d=1):=by show _=_; rw[zl,if_pos (by omega)]
   obtain⟨a,c,cap,rfl⟩:=hsl.slice;clear hsl;go_enter Tryz.func135,Tryz.ntmps135;go_wp2_with fail;go_ret;exact⟨by rw[HF.out]; rfl,((Below.refl _ _).alloc (Nat.le_refl _) _).alloc (by simp) _⟩
  have hd':¬(10:Int)<(d:Int):=by omega
  cases hk:qj k 1 4
  ·have HF:Hid (zl (.mk k f n xs) d=3):=by show _=_; rw[zl,if_neg hd0,if_pos hk]
   obtain⟨a,c,cap,rfl⟩:=hsl.slice;clear hsl;have hk2:k<1\/4<k:=by simp[qj] at hk; omega
   clear hk
   rcases hk2 with hk2|hk2
   ·go_enter Tryz.func135,Tryz.ntmps135
    go_wp2_with fail;go_ret;exact⟨by rw[HF.out]; rfl,((Below.refl _ _).alloc (Nat.le_refl _) _).alloc (by simp) _⟩
   ·have hk3:¬k<1:=by omega
    go_enter Tryz.func135,Tryz.ntmps135;go_wp2_with fail;go_ret;exact⟨by rw[HF.out]; rfl,((Below.refl _ _).alloc (Nat.le_refl _) _).alloc (by simp) _⟩
  have hk2:¬k<1:=by simp[qj] at hk; omega
  have hk3:¬4<k:=by simp[qj] at hk; omega
  have HT:Hid (zl (.mk k f n xs) d=if jc k f n xs.length=false then 4 else jm xs (d+1)):=by show _=_; rw[zl,if_neg hd0,if_neg (by rw[hk]; simp)]
  clear hk;obtain⟨a,cap,rfl,hrest⟩:=hsl;have HSL:Hid (ze S (jD S w) 4 xs (.slice a xs.length cap)):=⟨a,cap,rfl,hrest⟩
  clear hrest;have HB:Hid (Below w.heap.size w ((w.alloc (.cells #[.int .i64 k,.string f,.string n,.slice a xs.length cap] 67)).alloc (.cells #[.int .i64 d] 3))):=((Below.refl _ _).alloc (Nat.le_refl _) _).alloc (by simp) _;have hef:=z8
  cases hfit:jc k f n xs.length
  ·have HF:=zd (HT.out.trans (if_pos hfit))
   go_enter Tryz.func135,Tryz.ntmps135;go_wp2_with fail;refine (Yy k f n a xs.length cap hf hn _).mono ?_;rintro e w1 ⟨rfl,hb⟩;rw[hfit]
   go_wp2
   go_ret;exact⟨by rw[HF.out]; rfl,HB.out.trans (hb.mono (by simp; omega))⟩
  ·have HF:=zd (HT.out.trans ((if_neg (by rw[hfit]; simp)).trans (ZJ xs (d+1))))
   clear HT;go_enter Tryz.func135,Tryz.ntmps135;go_wp2_with fail;refine (Yy k f n a xs.length cap hf hn _).mono ?_;rintro e w1 ⟨rfl,hb⟩;rw[hfit];have c3:w1.cell? ⟨w.heap.size,3,none⟩=some (.slice a xs.length cap):=(hb.cell (by simp; omega)).trans ((World.cell?_alloc_old _ _ _ (by simp)).trans (World.cell?_alloc_at _ _ _ _ rfl));have hcd:w1.cell? ⟨w.heap.size+1,0,none⟩=some (.int .i64 d):=(hb.cell (by simp)).trans (World.cell?_alloc_at _ _ _ _ (by simp));have HCD:=zd hcd;have HB1:=zd (HB.out.trans (hb.mono (by simp; omega)));have hs1:w.heap.size+2<=w1.heap.size:=by have:=hb.size; simp at this; omega
   clear hb hcd;go_wp2_with fail;refine (zfT 208 #[.pointer (some ⟨w.heap.size+1,0,none⟩)] (enters_of Tryz.func208 (by kernel_rfl) rfl) (fun t=>zl t (d+1)) S xs _ w1 (fun b h=>by have:=hS b h; omega) (Kv (Keeps.below HB1.out hS) HSL.out) ?_).mono ?_
   ·rintro t ht W u hbW ⟨k',f',n',va',rfl,hcs⟩
    have hcd:W.cell? ⟨w.heap.size+1,0,none⟩=some (.int .i64 d):=(hbW.cell (by show w.heap.size+1<w1.heap.size; omega)).trans HCD.out;have hne:w.heap.size+1<W.heap.size:=by have:=hbW.size; omega
    obtain⟨va1,va2,va3,rfl⟩:=hcs.slice;have hws:=hbW.size;have hSW:∀b,S b->b<W.heap.size:=fun b h=>by have:=hS b h; omega
    have HC:=zd (hcs.keep (Keeps.below ((Below.refl W.heap.size W).alloc (Nat.le_refl _) (.cells #[.int .i64 k',.string f',.string n',.slice va1 va2 va3] 67)) hSW));have HBW:Hid (Below W.heap.size W (W.alloc (.cells #[.int .i64 k',.string f',.string n',.slice va1 va2 va3] 67))):=(Below.refl _ _).alloc (Nat.le_refl _) _;have cI:=HIH.out (d+1) (by omega) S t _ _ (by omega) (fun b h=>by have:=hSW b h; simp; omega) ⟨_,_,_,_,rfl,HC.out⟩;have en:((d+1:Nat):Int)=(d:Int)+1:=by omega
    rw[en] at cI;clear HIH HC hcs;go_enter Tryz.func208,Tryz.ntmps208;go_wp2_with fail;refine cI.mono ?_;rintro e w2 ⟨rfl,hb2⟩
    go_wp2
    go_ret;exact⟨rfl,HBW.out.trans (hb2.mono (by simp))⟩
   ·rintro e w2 ⟨rfl,hb2⟩
    go_wp2
    go_ret;exact⟨by rw[HF.out]; rfl,HB1.out.trans (hb2.mono (by omega))⟩
theorem zdb (s:ByteArray):(s.toList==[])=qv s:=vz s []
end Go.Proofs.YtedpiamfpbdhoaaGreatDoor
