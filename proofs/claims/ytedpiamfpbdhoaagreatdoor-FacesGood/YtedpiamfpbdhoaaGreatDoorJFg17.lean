import Derived.Test.YtedpiamfpbdhoaaGreatDoorJFg16
import Derived.Lib.IndexLaws
import Derived.Laws.IdiomCopy
import Derived.Laws.Rows
import Derived.Laws.MakeOwn
import Derived.OwnWalk
set_option maxHeartbeats 40000000
set_option maxRecDepth 100000
namespace Go.Proofs.YtedpiamfpbdhoaaGreatDoor
open Go.RowKit
theorem zE {p:Prop} (h:p):Hid p:=h
def kAt (s:ByteArray) (j:Nat):Int:=((s.data.toList.getD j 0).toNat:Int)
theorem zcN (s:ByteArray) (k:Nat) (h:k<s.size):((s[k]'h).toNat:Int)=kAt s k:=by
 unfold kAt;have h':k<s.data.toList.length:=by simpa using h
 rw[List.getD_eq_getElem?_getD,List.getElem?_eq_getElem h']
 rfl
def zZ (s:ByteArray):Bool:=decide (2<s.size)&&(kAt s 0==91&&kAt s (s.size - 1)==93)
def q6 (s:ByteArray):ByteArray:=s.extract 1 (s.size - 1)
theorem qo {s:ByteArray} (h:zZ s=true):2<s.size:=by
 unfold zZ at h;simp only[Bool.and_eq_true,decide_eq_true_eq] at h;exact h.1
theorem vg {s:ByteArray} (h:2<s.size):(q6 s).size=s.size - 2:=by
 unfold q6;rw[ByteArray.size_extract];omega
def kS (s:ByteArray):ByteArray:=if zZ s=true then kS (q6 s) else s
termination_by s.size
decreasing_by rename_i h; rw[vg (qo h)]; have:=qo h; omega
theorem V3 {s:ByteArray} (h:zZ s=true):kS s=kS (q6 s):=by rw[kS.eq_1 s]; simp[h]
theorem X2 {s:ByteArray} (h:zZ s=false):kS s=s:=by rw[kS.eq_1 s]; simp[h]
theorem Qt (s:ByteArray) (hs:s.size<=maxLen) (w:World) :
  Calls Tryz.prog 224 #[.string s] w fun e w'=>e=.returned (.bool (zZ s))/\w=w':=by
 unfold maxLen at hs
 by_cases h2:2<s.size
 ·have h2':(2:Int)<(s.size:Int):=by omega
  have HL:Hid (zZ s=(((s[0]'(by omega)).toNat:Int)==91&&((s[s.size - 1]'(by omega)).toNat:Int)==93)):=by
   show _=_;rw[zcN s 0,zcN s (s.size - 1)]; simp[zZ,h2]
  by_cases h0:((s[0]'(by omega)).toNat:Int)=91
  ·go_enter Tryz.func224,Tryz.ntmps224
   go_wp2
   go_ret;exact⟨by rw[HL.out,h0]; rfl,rfl⟩
  ·have h0':(((s[0]'(by omega)).toNat:Int)==91)=false:=by simpa using h0
   go_enter Tryz.func224,Tryz.ntmps224
   go_wp2
   go_ret;exact⟨by rw[HL.out,h0']; rfl,rfl⟩
 ·have h2':¬(2:Int)<(s.size:Int):=by omega
  have HL:Hid (zZ s=false):=by show _=_; simp[zZ]; omega
  go_enter Tryz.func224,Tryz.ntmps224
  go_wp2
  go_ret;exact⟨by rw[HL.out]; rfl,rfl⟩
theorem ze0 (s:ByteArray) (h2:2<s.size) (wx:World) :
  (Instr.slice 9 (.string s) (some (.int .i64 1)) (some (.int .i64 ((s.size:Int) - 1))) none).run Tryz.prog wx=.ok (.string (q6 s)) wx:=by
 have:=run_slice_string (P:=Tryz.prog) wx 9 s .i64 .i64 1 ((s.size:Int) - 1) Tryz.underlying9 (by omega) (by omega) (by omega);rw[this];unfold q6;rw[show ((s.size:Int) - 1).toNat=s.size - 1 by omega]
 rfl
theorem VD (s:ByteArray) (hs:s.size<=maxLen) (h2:2<s.size) (w:World) :
  Calls Tryz.prog 225 #[.string s] w fun e w'=>e=.returned (.string (q6 s))/\w=w':=by
 unfold maxLen at hs;have h2':(2:Int)<(s.size:Int):=by omega
 have hsl:=ze0 s h2;go_enter Tryz.func225,Tryz.ntmps225
 go_wp2
 go_ret;exact⟨rfl,rfl⟩
def jM (t:ByteArray):Bool:=t.toList==[105,110,116]||(t.toList==[116,101,120,116]||t.toList==[42])
def zy (s:ByteArray):Int:=if 600<s.size then 1 else if jM (kS s) then 0 else 4
def zcO:Value->ByteArray
 |.string t=>t
 |_=>⟨#[]⟩
theorem zV (s:ByteArray) (hs:s.size<=maxLen) (w:World) :
  Calls Tryz.prog 154 #[.string s] w fun e w'=>e=.returned (.int .i64 (zy s))/\w=w':=by
 by_cases h6:600<s.size
 ·have h6':(600:Int)<(s.size:Int):=by omega
  have HE:Hid (zy s=1):=by show _=_; simp[zy,h6]
  go_enter Tryz.func154,Tryz.ntmps154
  go_wp2
  go_ret;exact⟨by rw[HE.out]; rfl,rfl⟩
 ·have h6':¬(600:Int)<(s.size:Int):=by omega
  have HE:Hid (zy s=if jM (kS s) then 0 else 4):=by show _=_; simp[zy,h6]
  go_enter Tryz.func154,Tryz.ntmps154;go_wp2_with fail
  go_loop [0] (fun v=>∃t:ByteArray,t.size<=s.size/\v=.string t/\kS t=kS s) (fun v=>(zcO v).size)
  case atStart=>exact⟨s,Nat.le_refl _,rfl,rfl⟩
  case round=>
   obtain⟨t,ht,rfl,hk⟩:=hrel;have HK:=zE hk;clear hk;go_wp2_with fail;refine (Qt t (by omega) _).mono ?_;rintro e w' ⟨rfl,rfl⟩
   cases hl:zZ t with
   |true=>
    have h2:=qo hl;have HIn:=zE (V3 hl);have HSz:=zE (vg h2);clear hl;go_wp2_with fail;refine (VD t (by omega) h2 _).mono ?_;rintro e w' ⟨rfl,rfl⟩;go_wp2_with fail
    go_round
    ·exact⟨q6 t,by rw[HSz.out]; omega,rfl,by rw[<- HIn.out]; exact HK.out⟩
    ·show (q6 t).size<t.size
     rw[HSz.out]; omega
   |false=>
    have HNo:=zE (X2 hl);have HF:Hid (zy s=if jM t then 0 else 4):=by show _=_; rw[HE.out,<- HK.out,HNo.out]
    clear HE HK HNo hl
    cases b1:(t.toList==[105,110,116]) with
    |true=>
     go_wp2
     go_ret;exact⟨by rw[HF.out]; simp[jM,b1],rfl⟩
    |false=>
     cases b2:(t.toList==[116,101,120,116]) with
     |true=>
      go_wp2
      go_ret;exact⟨by rw[HF.out]; simp[jM,b1,b2],rfl⟩
     |false=>
      cases b3:(t.toList==[42]) with
      |true=>
       go_wp2
       go_ret;exact⟨by rw[HF.out]; simp[jM,b1,b2,b3],rfl⟩
      |false=>
       go_wp2
       go_ret;exact⟨by rw[HF.out]; simp[jM,b1,b2,b3],rfl⟩
def yH (s:ByteArray):ByteArray:=⟨#[91]⟩++s++⟨#[93]⟩
def qq (s:ByteArray):Int:=if zy s=0 then (if 598<s.size then 1 else 0) else zy s
theorem vU {s:ByteArray} (h:zy s=0):s.size<=600:=by
 unfold zy at h
 split at h
 ·cases h
 ·omega
theorem X3 {s:ByteArray} (hs:s.size<=maxLen) (h:qq s≠0) (w:World) :
  Calls Tryz.prog 297 #[.string s] w fun e w'=>e=.returned (.tuple #[.string ⟨#[]⟩,.int .i64 (qq s)])/\w=w':=by
 by_cases hk:zy s=0
 ·have h5:598<s.size:=by
   unfold qq at h; rw[if_pos hk] at h
   by_cases h5:598<s.size
   ·exact h5
   ·rw[if_neg h5] at h; exact absurd rfl h
  have HE:Hid (qq s=1):=by show _=_; simp[qq,hk,h5]
  have h6:=vU hk;have h7:(600:Int)<(s.size:Int)+2:=by omega
  clear h;go_enter Tryz.func297,Tryz.ntmps297;go_wp2_with fail;refine (zV s hs _).mono ?_;rintro e w' ⟨rfl,rfl⟩;rw[hk];clear hk
  go_wp2
  go_ret2;exact⟨by rw[HE.out]; rfl,rfl⟩
 ·have HE:Hid (qq s=zy s):=by show _=_; simp[qq,hk]
  have hk':(zy s != 0)=true:=by simpa using hk
  clear h hk;go_enter Tryz.func297,Tryz.ntmps297;go_wp2_with fail;refine (zV s hs _).mono ?_;rintro e w' ⟨rfl,rfl⟩
  go_wp2
  go_ret2;exact⟨by rw[HE.out]; rfl,rfl⟩
theorem QE {s:ByteArray} (h:qq s=0):zy s=0/\s.size<=598:=by
 unfold qq at h
 split at h
 ·refine⟨by assumption,?_⟩
  split at h
  ·cases h
  ·omega
 ·exact absurd h (by assumption)
theorem Xq {s:ByteArray} (h:qq s=0) (w:World) :
  Calls Tryz.prog 297 #[.string s] w fun e w'=>e=.returned (.tuple #[.string (yH s),.int .i64 0])/\w=w':=by
 obtain⟨hk,h5⟩:=QE h;have h7:¬(600:Int)<(s.size:Int)+2:=by omega
 have hs:s.size<=maxLen:=by unfold maxLen; omega
 clear h;go_enter Tryz.func297,Tryz.ntmps297;go_wp2_with fail;refine (zV s hs _).mono ?_;rintro e w' ⟨rfl,rfl⟩;rw[hk];clear hk
 go_wp2
 go_ret2;exact⟨rfl,rfl⟩
theorem qM (s:ByteArray) (w:World) (h:s.size<=281474976710656) :
  Calls Tryz.prog 57 #[.string s] w fun e w'=>e=.returned (.string s)/\Below w.heap.size w w':=by
 go_enter Tryz.func57,Tryz.ntmps57;go_wp2_with (go_at_call 111; refine (Tryz.stringslite_Clone s _ h).mono ?_; rintro e w' ⟨rfl,hb⟩);go_ret;exact⟨rfl,hb⟩
theorem Qk {s:ByteArray} (hs:s.size<=281474976710656) (h:zZ s=true) (w:World) :
  Calls Tryz.prog 323 #[.string s] w fun e w'=>e=.returned (.tuple #[.string (q6 s),.bool true])/\Below w.heap.size w w':=by
 have h2:=qo h;have hi:=vg h2;have hm:s.size<=maxLen:=by unfold maxLen; omega
 go_enter Tryz.func323,Tryz.ntmps323;go_wp2_with fail;refine (Qt s hm _).mono ?_;rintro e w' ⟨rfl,rfl⟩;rw[h];go_wp2_with fail;refine (VD s hm h2 _).mono ?_;rintro e w' ⟨rfl,rfl⟩;go_wp2_with fail;refine (qM (q6 s) _ (by omega)).mono ?_;rintro e w1 ⟨rfl,hb⟩
 go_wp2
 go_ret2;exact⟨rfl,hb⟩
theorem Xf {s:ByteArray} (hm:s.size<=maxLen) (h:zZ s=false) (w:World) :
  Calls Tryz.prog 323 #[.string s] w fun e w'=>e=.returned (.tuple #[.string ⟨#[]⟩,.bool false])/\w=w':=by
 go_enter Tryz.func323,Tryz.ntmps323;go_wp2_with fail;refine (Qt s hm _).mono ?_;rintro e w' ⟨rfl,rfl⟩;rw[h]
 go_wp2
 go_ret2;exact⟨rfl,rfl⟩
def xM (s:ByteArray):Bool:=s.data.toList.contains 42
theorem ze1 (l:List UInt8):decide (0<=Lib.indexByte l 42)=l.contains 42:=by
 cases h:l.contains 42 with
 |true=>
  rw[List.contains_iff_mem] at h;obtain⟨k,hk⟩:=List.getElem?_of_mem h;have h1:=Lib.indexByte_ge l 42;have h2:Lib.indexByte l 42≠-1:=fun e=>Lib.indexByte_none e k hk
  simp; omega
 |false=>
  have h1:=Lib.indexByte_ge l 42;simp only[decide_eq_false_iff_not];intro h0;obtain⟨o,ho⟩:=Int.eq_ofNat_of_zero_le h0;have:=(Lib.indexByte_some ho).1;have hm:=List.mem_of_getElem? this;rw[<- List.contains_iff_mem,h] at hm
  cases hm
theorem k9 (s:ByteArray) (w:World) :
  Calls Tryz.prog 90 #[.string s] w fun e w'=>e=.returned (.bool (xM s))/\w=w':=by
 have HI:=zE (ze1 s.data.toList);have hx:Calls Tryz.prog 155 #[.string s,.int .u8 42] w fun e w'=>e=.returned (.int .i64 (Lib.indexByte s.data.toList 42))/\w=w':=by
  go_enter Tryz.func155,Tryz.ntmps155;go_wp2_with fail;refine (Tryz.stringslite_IndexByte s 42 _).mono ?_;rintro e w' ⟨rfl,rfl⟩
  go_wp2
  go_ret;exact⟨rfl,rfl⟩
 have HX:=zE hx;clear hx;go_enter Tryz.func90,Tryz.ntmps90;go_wp2_with fail;refine HX.out.mono ?_;rintro e w' ⟨rfl,rfl⟩;have e2:=HI.out;clear HI HX;have HV:Hid (xM s=s.data.toList.contains 42):=rfl;generalize Lib.indexByte s.data.toList 42=n at *;rw[<- HV.out] at e2;clear HV
 cases hv:xM s with
 |true=>
  have h0:(0:Int)<=n:=by rw[hv] at e2; simpa using e2
  have HV:=zE hv;clear e2 hv
  go_wp2
  go_ret;exact⟨by first|rfl|rw[HV.out]; rfl,rfl⟩
 |false=>
  have h0:¬(0:Int)<=n:=by rw[hv] at e2; simpa using e2
  have h0':decide ((0:Int)<=n)=false:=by simpa using h0
  have HV:=zE hv;clear e2 hv
  go_wp2
  go_ret;exact⟨by rw[HV.out]; rfl,rfl⟩
def Zu (w:World) (x y:ByteArray) (W:World):Prop:=
 Below w.heap.size w W/\W.cell? ⟨w.heap.size,0,none⟩=some (.string x)/\W.cell? ⟨w.heap.size,1,none⟩=some (.string y)
theorem Zu.later {w:World} {x y:ByteArray} {W W':World} (h:Zu w x y W) (hb:Below W.heap.size W W'):Zu w x y W':=by
 obtain⟨h0,h1,h2⟩:=h;exact⟨h0.trans (hb.mono h0.size),(hb.cell (World.block_lt_of_cell? _ _ h1)).trans h1,(hb.cell (World.block_lt_of_cell? _ _ h2)).trans h2⟩
theorem Zu.stored {w:World} {x y:ByteArray} {W:World} (h:Zu w x y W) (u v:Value):Zu w x y ((W.setCell ⟨w.heap.size+1,0,none⟩ u).setCell ⟨w.heap.size+1,1,none⟩ v):=by
 obtain⟨h0,h1,h2⟩:=h;refine⟨(h0.setCell (by show w.heap.size<=w.heap.size+1; omega) _).setCell (by show w.heap.size<=w.heap.size+1; omega) _,?_,?_⟩
 ·rw[World.cell?_setCell_far _ _ _ _ (by show w.heap.size+1≠w.heap.size; omega),World.cell?_setCell_far _ _ _ _ (by show w.heap.size+1≠w.heap.size; omega)]; exact h1
 ·rw[World.cell?_setCell_far _ _ _ _ (by show w.heap.size+1≠w.heap.size; omega),World.cell?_setCell_far _ _ _ _ (by show w.heap.size+1≠w.heap.size; omega)]; exact h2
theorem zbi (x y:ByteArray) (hx:x.size<=reachBytes) (hy:y.size<=reachBytes) (w:World) :
  Calls Tryz.prog 47 #[.agg #[.string x,.string y]] w fun e w'=>e=.returned (.agg #[.string x,.string y])/\Below w.heap.size w w':=by
 have hr:=reachBytes_lt;have HCx:Hid (∀W,Calls Tryz.prog 57 #[.string x] W fun e w'=>e=.returned (.string x)/\Below W.heap.size W w'):=fun W=>qM x W (by omega)
 have HCy:Hid (∀W,Calls Tryz.prog 57 #[.string y] W fun e w'=>e=.returned (.string y)/\Below W.heap.size W w'):=fun W=>qM y W (by omega)
 obtain⟨w2,hwe,hs2,p0,p1,q0,q1,f0,f1,hbel⟩:∃w2,(w.alloc (.cells #[.string x,.string y] 74)).alloc (.cells #[.string ⟨#[]⟩,.string ⟨#[]⟩] 74)=w2/\w2.heap.size=w.heap.size+2/\
   w2.cell? ⟨w.heap.size,0,none⟩=some (.string x)/\w2.cell? ⟨w.heap.size,1,none⟩=some (.string y)/\w2.cell? ⟨w.heap.size+1,0,none⟩=some (.string ⟨#[]⟩)/\w2.cell? ⟨w.heap.size+1,1,none⟩=some (.string ⟨#[]⟩)/\
   w2.frozen? ⟨w.heap.size+1,0,none⟩=false/\w2.frozen? ⟨w.heap.size+1,1,none⟩=false/\Below w.heap.size w w2:=
  ⟨_,rfl,by simp,by simp[go_sem],by simp[go_sem],by simp[go_sem],by simp[go_sem],by simp[go_sem],by simp[go_sem],((Below.refl _ _).alloc (Nat.le_refl _) _).alloc (by simp) _⟩
 have HWe:=zd hwe;have HX:Hid (Below (w.heap.size+2) w2 w2.drew):=(Below.refl _ _).drew;have HK0:Hid (Zu w x y w2.drew):=⟨hbel.drew,p0,p1⟩
 have HN:Hid (∀W W',Zu w x y W->Below W.heap.size W W'->Zu w x y W'):=fun _ _ h hb=>h.later hb
 have HN2:Hid (∀W u v,Zu w x y W->Zu w x y ((W.setCell ⟨w.heap.size+1,0,none⟩ u).setCell ⟨w.heap.size+1,1,none⟩ v)):=fun _ u v h=>h.stored u v
 have HQ:Hid (∀W,Below (w.heap.size+2) w2 W->W.cell? ⟨w.heap.size+1,0,none⟩=some (.string ⟨#[]⟩)/\W.cell? ⟨w.heap.size+1,1,none⟩=some (.string ⟨#[]⟩)/\W.frozen? ⟨w.heap.size+1,0,none⟩=false/\W.frozen? ⟨w.heap.size+1,1,none⟩=false):=fun W h=>
  ⟨(h.cell (by show w.heap.size+1<_; omega)).trans q0,(h.cell (by show w.heap.size+1<_; omega)).trans q1,(h.frozen (by show w.heap.size+1<_; omega)).trans f0,(h.frozen (by show w.heap.size+1<_; omega)).trans f1⟩
 clear hx hy hr hwe p0 p1 q0 q1 f0 f1 hbel;go_enter Tryz.func47,Tryz.ntmps47;go_wp2_with fail;rw[HWe.out];clear HWe
 go_region_held3 (fun W=>Below w.heap.size w W/\W.cell? ⟨w.heap.size,0,none⟩=some (.string x)/\W.cell? ⟨w.heap.size,1,none⟩=some (.string y)) (first|exact HK0.out|exact HN.out _ _ (by assumption) (by assumption)|exact HN2.out _ _ _ (by assumption))
  (first
   |(go_at_call_of 57 (Value.string x); refine (HCx.out _).mono ?_; rintro e w' ⟨rfl,hb'⟩; replace HX:=zd (HX.out.trans (hb'.mono (by have:=HX.out.size; omega))); obtain⟨g0,g1,g2,g3⟩:=HQ.out _ HX.out)
   |(go_at_call_of 57 (Value.string y); refine (HCy.out _).mono ?_; rintro e w' ⟨rfl,hb'⟩; replace HX:=zd (HX.out.trans (hb'.mono (by have:=HX.out.size; omega))); obtain⟨g0,g1,g2,g3⟩:=HQ.out _ HX.out))
 all_goals
  rename_i hHeld
  have HB:=zd hHeld.1;clear hHeld;go_wp2_with fail;exact bodyPost_ret (v:=.agg #[.string x,.string y]) (by simp[results,Tryz.results47,go_sem,g0,g1]) rfl ⟨rfl,HB.out⟩
theorem xI (w:World) (a:Addr) (u:Value):(w.setCell a u).heap.size=w.heap.size:=by simp[World.setCell]
theorem ZR (g:Nat):∀(vs:List Value) (o:Nat) (w:World),(w.setCells g o vs).heap.size=w.heap.size
 |[],_,_=>rfl
 |v::r,o,w=>by rw[World.setCells,ZR g r]; exact xI _ _ _
theorem XI {B:Nat} {w:World} (g:Nat) (hg:B<=g):∀(vs:List Value) (o:Nat) {W:World},Below B w W->Below B w (W.setCells g o vs)
 |[],_,_,h=>h
 |v::r,o,W,h=>by
  rw[World.setCells];exact XI g hg r (o+1) (h.setCell hg v)
theorem zhs {w:World} {g:Nat} {cur:Array Value} {e:TypeId} (h:w.heap[g]? = some (.cells cur e (0,0))) (o:Nat) (u:Value) :
  (w.setCell ⟨g,o,none⟩ u).heap[g]? = some (.cells (cur.setIfInBounds o u) e (0,0)):=by
 simp[World.setCell,Array.getElem?_modify,h]
theorem zbj {g:Nat} {e:TypeId}:∀(vs:List Value) {w:World} {cur:Array Value} (_:w.heap[g]? = some (.cells cur e (0,0))) (o:Nat),∃cur',(w.setCells g o vs).heap[g]? = some (.cells cur' e (0,0))/\cur'.size=cur.size
 |[],_,cur,h,_=>⟨cur,h,rfl⟩
 |v::r,w,cur,h,o=>by
  rw[World.setCells];obtain⟨c,h1,h2⟩:=zbj r (zhs h o v) (o+1);exact⟨c,h1,by rw[h2]; simp⟩
structure RowJ {α:Type} (w:World) (e:TypeId) (c:Nat) (P:World->α->Nat->Prop) (l:List α) (j:Nat) (W:World):Prop where
 bel:Below w.heap.size w W
 row:∃cur,W.heap[w.heap.size]? = some (.cells cur e (0,0))/\cur.size=l.length * c
 old:∀i (hi:i<l.length),i<j->P W l[i] (i * c)
def zaO {α:Type} (B c:Nat) (P:World->α->Nat->Prop):Prop:=
 ∀(W W':World) (x:α) (o:Nat),(∀b,b≠B->b<W.heap.size->W'.heap[b]? = W.heap[b]?)->W.heap.size<=W'.heap.size->(∀k,k<c->W'.cell? ⟨B,o+k,none⟩=W.cell? ⟨B,o+k,none⟩)->P W x o->P W' x o
theorem RowJ.start {α:Type} {w:World} {e:TypeId} {c:Nat} {P:World->α->Nat->Prop} {l:List α} {arr:Array Value} (h:arr.size=l.length * c):RowJ w e c P l 0 (w.alloc (.cells arr e)):=
 ⟨(Below.refl _ _).alloc (Nat.le_refl _) _,⟨arr,heap_alloc_new _ _,h⟩,fun _ _ h=>absurd h (Nat.not_lt_zero _)⟩
theorem zh2 {W:World} {b:Nat} {o:Obj} (h:W.heap[b]? = some o):b<W.heap.size:=by
 rcases Nat.lt_or_ge b W.heap.size with h1|h1
 ·exact h1
 ·rw[Array.getElem?_eq_none h1] at h
  cases h
theorem RowJ.lt {α:Type} {w:World} {e:TypeId} {c:Nat} {P:World->α->Nat->Prop} {l:List α} {j:Nat} {W:World} (h:RowJ w e c P l j W):w.heap.size<W.heap.size:=by
 obtain⟨cur,h1,_⟩:=h.row;exact zh2 h1
theorem RowJ.room {α:Type} {w:World} {e:TypeId} {c:Nat} {P:World->α->Nat->Prop} {l:List α} {j:Nat} {W W1:World} (h:RowJ w e c P l j W) (hb:Below W.heap.size W W1) (hj:j<l.length):∀k,k<c->(∃u,W1.cell? ⟨w.heap.size,j * c+k,none⟩=some u)/\W1.frozen? ⟨w.heap.size,j * c+k,none⟩=false:=by
 intro k hk;obtain⟨cur,h1,h2⟩:=h.row;have h3:=(hb.block _ h.lt).trans h1;have hlt:j * c+k<cur.size:=by
  rw[h2];have:=Nat.mul_le_mul_right c (show j+1<=l.length from hj);rw[Nat.add_mul] at this;omega
 exact⟨⟨cur[j * c+k],by rw[cell_of_row _ _ _ _ _ _ h3,Array.getElem?_eq_getElem hlt]⟩,frozen_of_row _ _ _ _ _ h3⟩
theorem RowJ.step {α:Type} {w:World} {e:TypeId} {c:Nat} {P:World->α->Nat->Prop} {l:List α} {j:Nat} {W W1:World} (h:RowJ w e c P l j W) (hS:zaO w.heap.size c P) (hb:Below W.heap.size W W1) (hj:j<l.length) (vs:List Value) (hv:vs.length=c)
  (hP:(∀k (hk:k<vs.length),(W1.setCells w.heap.size (j * c) vs).cell? ⟨w.heap.size,j * c+k,none⟩=some vs[k])->(∀b,b≠w.heap.size->b<W1.heap.size->(W1.setCells w.heap.size (j * c) vs).heap[b]? = W1.heap[b]?)->(W1.setCells w.heap.size (j * c) vs).heap.size=W1.heap.size->P (W1.setCells w.heap.size (j * c) vs) l[j] (j * c)) :
  RowJ w e c P l (j+1) (W1.setCells w.heap.size (j * c) vs):=by
 have hlt:=h.lt;obtain⟨cur,h1,h2⟩:=h.row;have h3:=(hb.block _ hlt).trans h1;have hin:∀k (hk:k<vs.length),(W1.setCells w.heap.size (j * c) vs).cell? ⟨w.heap.size,j * c+k,none⟩=some vs[k]:=fun k hk=>
  World.cell?_setCells_in _ vs _ W1 (fun k hk=>by
   obtain⟨⟨u,hu⟩,_⟩:=h.room hb hj k (by omega);rw[hu]; rfl) k hk
 have hoth:∀b,b≠w.heap.size->b<W1.heap.size->(W1.setCells w.heap.size (j * c) vs).heap[b]? = W1.heap[b]?:=fun b hne hlt=>World.heap_setCells_other _ _ _ _ hlt hne
 refine⟨XI _ (Nat.le_refl _) vs _ (h.bel.trans (hb.mono h.bel.size)),?_,fun i hi hij=>?_⟩
 ·obtain⟨cur',h4,h5⟩:=zbj vs h3 (j * c)
  exact⟨cur',h4,h5.trans h2⟩
 ·by_cases he:i=j
  ·subst he
   exact hP hin hoth (ZR _ _ _ _)
  ·refine hS W _ _ _ (fun b hne hlt=>?_) (by rw[ZR]; exact hb.size) (fun k hk=>?_) (h.old i hi (by omega))
   ·rw[hoth b hne (Nat.lt_of_lt_of_le hlt hb.size),hb.block b hlt]
   ·rw[World.cell?_setCells_out _ vs _ _ _ (fun _ _=>Or.inl (by
     show i * c+k<j * c;have:=Nat.mul_le_mul_right c (show i+1<=j by omega);rw[Nat.add_mul] at this;omega))]
    exact hb.cell (p:=⟨w.heap.size,_,none⟩) hlt
theorem RowJ.whole {α:Type} {w:World} {e:TypeId} {c:Nat} {P:World->α->Nat->Prop} {l:List α} {W:World} (h:RowJ w e c P l l.length W) (hl:l.length<=maxLen) {S:Nat->Prop} (hS:S w.heap.size) {Q:α->Nat->Nat->Prop} (hQ:∀x o,P W x o->Q x w.heap.size o) :
  ze S Q c l (.slice (some ⟨w.heap.size,0,none⟩) l.length l.length):=
 ⟨_,_,rfl,⟨hl,Nat.le_refl _⟩,Or.inr ⟨_,_,rfl,hS,qA.mk fun i hi=>by rw[Nat.zero_add]; exact hQ _ _ (h.old i hi hi)⟩⟩
theorem QX {t e:TypeId} {z:Value} {c by':Nat} (ht:Tryz.prog.underlying t=some (.slice e)) (hi:(Tryz.prog.info? e).map (fun i=>(i.zero,i.size,i.bytes))=some (some z,c,by')) (n:Nat) (hb:n * by'<=281474976710656) (hn:n<=maxLen) :
  ∃arr:Array Value,arr.size=n * c/\∀w,(Instr.makeSlice t (.int .i64 (n:Int)) (.int .i64 (n:Int))).run Tryz.prog w=.ok (.slice (some ⟨w.heap.size,0,none⟩) n n) (w.alloc (.cells arr e)):=by
 obtain⟨i,h1,h2,h3,h4⟩:=info_parts hi;unfold maxLen at hn;refine⟨madeCells z.cells (n * c),size_madeCells _ _,fun w=>?_⟩;have hb':(i.bytes:Int) * (n:Int)<=281474976710656:=by
  rw[h4,<- Int.natCast_mul,Nat.mul_comm];omega
 have:=run_make (P:=Tryz.prog) w t e i z ht h1 h2 .i64 .i64 n n (by omega) (Int.le_refl _) hb' (by omega);rw[h3] at this;simpa using this
theorem V4:(Tryz.prog.info? 9).map (fun i=>(i.zero,i.size,i.bytes))=some (some (.string ⟨#[]⟩),1,16):=by kernel_rfl
theorem zcP:(Tryz.prog.info? 74).map (fun i=>(i.zero,i.size,i.bytes))=some (some (.agg #[.string ⟨#[]⟩,.string ⟨#[]⟩]),2,32):=by kernel_rfl
def Qu (B:Nat) (W:World) (s:ByteArray) (o:Nat):Prop:=zG W s B o
theorem X4 (B:Nat):zaO B 1 (Qu B):=fun W W' x o _ _ h hp=>⟨(h 0 (by omega)).trans hp.1,hp.2⟩
def KnP (B:Nat) (W:World) (k:Kn) (o:Nat):Prop:=jp W k B o
theorem ze2 (B:Nat):zaO B 2 (KnP B):=fun W W' x o _ _ h hp=>⟨⟨(h 0 (by omega)).trans hp.1.1,hp.1.2⟩,(h 1 (by omega)).trans hp.2.1,hp.2.2⟩
theorem ze3 (S:Nat->Prop) (l:List ByteArray) (v:Value) (w:World) (hS:∀b,S b->b<w.heap.size) (hv:ze S (zG w) 1 l v) (hz:l.length * 16<=reachBytes) (he:∀s∈l,s.size<=reachBytes) :
  Calls Tryz.prog 92 #[v,.func (.func 57) #[] #[]] w fun e w'=>∃u,e=.returned u/\ze (fun b=>w.heap.size<=b/\b<w'.heap.size) (zG w') 1 l u/\Below w.heap.size w w':=by
 have hr:=reachBytes_lt;have HL:=zd (ze.len hv);have HV:=zd hv;obtain⟨a,cap,rfl⟩:=hv.is;have hlen:l.length<=9223372036854775807:=by have:=HL.out; unfold maxLen at this; omega
 obtain⟨arr,harr,hmk⟩:=QX Tryz.underlying37 V4 l.length (by omega) HL.out;have HJ:Hid (RowJ w 9 1 (Qu w.heap.size) l 0 (w.alloc (.cells arr 9))):=RowJ.start harr;have HZ:=zd he;clear hv hz he harr;go_enter Tryz.func92,Tryz.ntmps92;go_wp2_with fail;clear hmk
 go_loopw [13] (fun i wr=>∃j:Nat,j<=l.length/\i=.int .i64 j/\RowJ w 9 1 (Qu w.heap.size) l j wr) (fun i _=>l.length - (intOf i).toNat)
 case atStart=>exact⟨0,Nat.zero_le _,rfl,HJ.out⟩
 case round=>
  obtain⟨j,hj,rfl,hrj⟩:=hrel;have HR:=zd hrj;clear HJ
  by_cases hlt:j<l.length
  ·have hlt':(j:Int)<(l.length:Int):=by omega
   have hj0:(0:Int)<=(j:Int):=by omega
   obtain⟨_,b,off,rfl,hb,a0,m0⟩:=HV.out.at hlt;have hbk:=hS b hb;rw[Nat.mul_one] at a0;have d0:=(hrj.bel.cell (p:=⟨b,off+j,none⟩) hbk).trans a0;have HC:Hid (∀W,Calls Tryz.prog 57 #[.string l[j]] W fun e w'=>e=.returned (.string l[j])/\Below W.heap.size W w'):=fun W=>qM _ W (by have:=HZ.out _ (List.getElem_mem hlt); omega)
   have HN:Hid (∀W1,Below wr.heap.size wr W1->RowJ w 9 1 (Qu w.heap.size) l (j+1) (W1.setCell ⟨w.heap.size,j,none⟩ (.string l[j]))):=fun W1 h1=>by
    have:=hrj.step (X4 _) h1 hlt [.string l[j]] rfl (fun hc _ _=>⟨hc 0 (by simp),m0⟩);rw[Nat.mul_one] at this;exact this
   have HRm:Hid (∀W1,Below wr.heap.size wr W1->(∃u,W1.cell? ⟨w.heap.size,j,none⟩=some u)/\W1.frozen? ⟨w.heap.size,j,none⟩=false):=fun W1 h1=>by
    have:=hrj.room h1 hlt 0 (by omega);rw[Nat.mul_one] at this;exact this
   clear hrj a0 HV m0;generalize l[j]=x at *;go_wp2_with fail;refine (HC.out _).mono ?_;rintro e w' ⟨rfl,hb'⟩;obtain⟨⟨u,hu⟩,hfz⟩:=HRm.out _ hb';have HN':=zd (HN.out _ hb');clear hb';go_wp2_with fail;exact⟨⟨j+1,by omega,by go_num,HN'.out⟩,by simp[intOf]; omega⟩
  ·have hnl:¬(j:Int)<(l.length:Int):=by omega
   have hje:j=l.length:=by omega
   have HW:Hid (ze (fun b=>w.heap.size<=b/\b<wr.heap.size) (zG wr) 1 l (.slice (some ⟨w.heap.size,0,none⟩) l.length l.length)):=by
    subst hje;exact hrj.whole HL.out (S:=fun b=>w.heap.size<=b/\b<wr.heap.size) ⟨Nat.le_refl _,hrj.lt⟩ (fun _ _ h=>h)
   have HB:=zd hrj.bel;clear hrj HV hje;go_wp2_with fail;go_ret;exact⟨_,rfl,HW.out,HB.out⟩
theorem zgw (S:Nat->Prop) (l:List Kn) (v:Value) (w:World) (hS:∀b,S b->b<w.heap.size) (hv:ze S (jp w) 2 l v) (hz:l.length * 32<=reachBytes) (he:∀s∈l,zcM s) :
  Calls Tryz.prog 46 #[v,.func (.func 47) #[] #[]] w fun e w'=>∃u,e=.returned u/\ze (fun b=>w.heap.size<=b/\b<w'.heap.size) (jp w') 2 l u/\Below w.heap.size w w':=by
 have hr:=reachBytes_lt;have HL:=zd (ze.len hv);have HV:=zd hv;obtain⟨a,cap,rfl⟩:=hv.is;have hlen:l.length<=9223372036854775807:=by have:=HL.out; unfold maxLen at this; omega
 obtain⟨arr,harr,hmk⟩:=QX Tryz.underlying23 zcP l.length (by omega) HL.out;have HJ:Hid (RowJ w 74 2 (KnP w.heap.size) l 0 (w.alloc (.cells arr 74))):=RowJ.start harr;have HZ:=zd he;clear hv hz he harr;go_enter Tryz.func46,Tryz.ntmps46;go_wp2_with fail;clear hmk
 go_loopw [13] (fun i wr=>∃j:Nat,j<=l.length/\i=.int .i64 j/\RowJ w 74 2 (KnP w.heap.size) l j wr) (fun i _=>l.length - (intOf i).toNat)
 case atStart=>exact⟨0,Nat.zero_le _,rfl,HJ.out⟩
 case round=>
  obtain⟨j,hj,rfl,hrj⟩:=hrel;have HR:=zd hrj;clear HJ
  by_cases hlt:j<l.length
  ·have hlt':(j:Int)<(l.length:Int):=by omega
   have hj0:(0:Int)<=(j:Int):=by omega
   obtain⟨_,b,off,rfl,hb,⟨a0,m0⟩,a1,m1⟩:=HV.out.at hlt;have hbk:=hS b hb;have d0:=(hrj.bel.cell (p:=⟨b,off+j * 2,none⟩) hbk).trans a0;have d1:=(hrj.bel.cell (p:=⟨b,off+j * 2+1,none⟩) hbk).trans a1;have hsm:=HZ.out _ (List.getElem_mem hlt);have HC:Hid (∀W,Calls Tryz.prog 47 #[.agg #[.string l[j].name,.string l[j].is]] W fun e w'=>e=.returned (.agg #[.string l[j].name,.string l[j].is])/\Below W.heap.size W w'):=fun W=>zbi _ _ hsm.1 hsm.2 W
   have HN:Hid (∀W1,Below wr.heap.size wr W1->RowJ w 74 2 (KnP w.heap.size) l (j+1) ((W1.setCell ⟨w.heap.size,j * 2,none⟩ (.string l[j].name)).setCell ⟨w.heap.size,j * 2+1,none⟩ (.string l[j].is))):=fun W1 h1=>
    hrj.step (ze2 _) h1 hlt [.string l[j].name,.string l[j].is] rfl (fun hc _ _=>⟨⟨hc 0 (by simp),m0⟩,hc 1 (by simp),m1⟩)
   have HRm:Hid (∀W1,Below wr.heap.size wr W1->((∃u,W1.cell? ⟨w.heap.size,j * 2,none⟩=some u)/\W1.frozen? ⟨w.heap.size,j * 2,none⟩=false)/\(∃u,W1.cell? ⟨w.heap.size,j * 2+1,none⟩=some u)/\W1.frozen? ⟨w.heap.size,j * 2+1,none⟩=false):=fun W1 h1=>
    ⟨hrj.room h1 hlt 0 (by omega),hrj.room h1 hlt 1 (by omega)⟩
   have HA:Hid (∀o,Below wr.heap.size wr (wr.alloc o)):=fun o=>(Below.refl _ _).alloc (Nat.le_refl _) _
   have hbr:b<wr.heap.size:=Nat.lt_of_lt_of_le hbk hrj.bel.size;have hrlt:=hrj.lt;clear hrj a0 a1 HV m0 m1 hsm;generalize l[j].name=x at *;generalize l[j].is=y at *;go_wp2_with fail;refine (HC.out _).mono ?_;rintro e w' ⟨rfl,hb'⟩;have hb1:=(HA.out _).trans (hb'.mono (by simp));obtain⟨⟨⟨u,hu⟩,hfz⟩,⟨u',hu'⟩,hfz'⟩:=HRm.out _ hb1;have HN':=zd (HN.out _ hb1);clear hb' hb1;go_wp2_with fail;exact⟨⟨j+1,by omega,by go_num,HN'.out⟩,by simp[intOf]; omega⟩
  ·have hnl:¬(j:Int)<(l.length:Int):=by omega
   have hje:j=l.length:=by omega
   have HW:Hid (ze (fun b=>w.heap.size<=b/\b<wr.heap.size) (jp wr) 2 l (.slice (some ⟨w.heap.size,0,none⟩) l.length l.length)):=by
    subst hje;exact hrj.whole HL.out (S:=fun b=>w.heap.size<=b/\b<wr.heap.size) ⟨Nat.le_refl _,hrj.lt⟩ (fun _ _ h=>h)
   have HB:=zd hrj.bel;clear hrj HV hje;go_wp2_with fail;go_ret;exact⟨_,rfl,HW.out,HB.out⟩
def vk (l:List ByteArray):List Value:=l.map Value.string
theorem zh3 {w:World} {B:Nat} {v:Value} {l:List ByteArray} (h:w.ownsRow B 9 1 v l.length (vk l)) (hl:l.length<=maxLen) (hs:∀t∈l,t.size<=maxLen):ze (fun b=>B<=b/\b<w.heap.size) (zG w) 1 l v:=by
 obtain⟨hx,⟨hv,hn⟩|⟨g,cap,cur,hv,hg,hh,h1,h2,h3,h4⟩⟩:=h
 ·subst hv
  exact⟨none,0,by rw[hn],⟨hl,by omega⟩,Or.inl hn⟩
 ·subst hv
  refine⟨_,cap,rfl,⟨hl,h1⟩,Or.inr ⟨g,0,rfl,⟨hg,?_⟩,qA.mk fun i hi=>?_⟩⟩
  ·rcases Nat.lt_or_ge g w.heap.size with h|h
   ·exact h
   ·rw[Array.getElem?_eq_none h] at hh
    cases hh
  ·have hc:∀j u,(vk l)[j]? = some u->w.cell? ⟨g,j,none⟩=some u:=fun j u hj=>by
    rw[<- h4] at hj;have hj':j<l.length * 1:=by
     rcases Nat.lt_or_ge j (l.length * 1) with h|h
     ·exact h
     ·rw[List.getElem?_eq_none (by rw[List.length_take]; omega)] at hj
      cases hj
    rw[List.getElem?_take_of_lt hj'] at hj;simpa [World.cell?,hh] using hj
   rw[Nat.zero_add,Nat.mul_one];exact⟨hc i _ (by simp[vk,List.getElem?_eq_getElem hi]),hs _ (List.getElem_mem hi)⟩
def xD (s:ByteArray):Bool:=zy s==0
def X5 (k:Kn):Bool:=zf k.name&&(xD k.is&&!xM k.is)
def V5 (g:Sg):Bool:=zf g.name&&(decide (g.params.length<=8)&&(xD g.result&&g.params.all xD))
def Kd (ok:Bool):Int:=if ok=true then 0 else 4
theorem X6 (s:ByteArray) (hs:s.size<=maxLen) (w:World):Calls Tryz.prog 89 #[.string s] w fun e w'=>e=.returned (.bool (xD s))/\w=w':=by
 have HE:Hid (xD s=(zy s==0)):=rfl;go_enter Tryz.func89,Tryz.ntmps89;go_wp2_with fail;refine (zV s hs _).mono ?_;rintro e w' ⟨rfl,rfl⟩
 go_wp2
 go_ret;exact⟨by rw[HE.out]; rfl,rfl⟩
theorem zbk (x y:ByteArray) (w:World):Calls Tryz.prog 38 #[.agg #[.string x,.string y]] w fun e w'=>e=.returned (.string x)/\Below w.heap.size w w':=by
 go_enter Tryz.func38,Tryz.ntmps38
 go_wp2
 go_ret;exact⟨rfl,(Below.refl _ _).alloc (Nat.le_refl _) _⟩
theorem zbl (x y:ByteArray) (a:Option Addr) (n cap:Nat) (w:World):Calls Tryz.prog 41 #[.agg #[.string x,.slice a n cap,.string y]] w fun e w'=>e=.returned (.string x)/\Below w.heap.size w w':=by
 go_enter Tryz.func41,Tryz.ntmps41
 go_wp2
 go_ret;exact⟨rfl,(Below.refl _ _).alloc (Nat.le_refl _) _⟩
def gtB (s p:ByteArray):Bool:=!Op.bytesLess s.toList p.toList&&!(s.toList==p.toList)
theorem jx (B:Nat) (s p:ByteArray) (w:World) (hp:w.cell? ⟨B,0,none⟩=some (.string p)) (hf:w.frozen? ⟨B,0,none⟩=false) :
  Calls Tryz.prog 152 #[.string s,.pointer (some ⟨B,0,none⟩)] w fun e w'=>e=.returned (.bool (gtB s p))/\w'=w.setCell ⟨B,0,none⟩ (.string s):=by
 go_enter Tryz.func152,Tryz.ntmps152
 go_wp2
 go_ret;exact⟨rfl,rfl⟩
theorem X7 (w:World) :
  Calls Tryz.prog 87 #[] w fun e w'=>e=.returned (.func (.func 152) #[] #[.pointer (some ⟨w.heap.size,0,none⟩)])/\w'=w.alloc (.cells #[.string ⟨#[]⟩] 9):=by
 go_enter Tryz.func87,Tryz.ntmps87
 go_wp2
 go_ret;exact⟨rfl,rfl⟩
theorem zca (k:Kn) (h0:k.name.size<=maxLen) (h1:k.is.size<=maxLen) (w:World) :
  Calls Tryz.prog 39 #[.agg #[.string k.name,.string k.is]] w fun e w'=>e=.returned (.int .i64 (Kd (X5 k)))/\Below w.heap.size w w':=by
 have HE:Hid (X5 k=(zf k.name&&(xD k.is&&!xM k.is))):=rfl;have HI:Hid (∀W,Calls Tryz.prog 88 #[.string k.name] W fun e w'=>e=.returned (.bool (zf k.name))/\Below W.heap.size W w'):=fun W=>zX _ h0 W
 have HK:Hid (∀W,Calls Tryz.prog 89 #[.string k.is] W fun e w'=>e=.returned (.bool (xD k.is))/\W=w'):=fun W=>X6 _ h1 W
 have HO:Hid (∀W,Calls Tryz.prog 90 #[.string k.is] W fun e w'=>e=.returned (.bool (xM k.is))/\W=w'):=fun W=>k9 _ W
 have HA:Hid (Below w.heap.size w (w.alloc (.cells #[.string k.name,.string k.is] 74))):=(Below.refl _ _).alloc (Nat.le_refl _) _;generalize X5 k=ok at *;generalize k.name=x at *;generalize k.is=y at *
 cases hi:zf x with
 |false=>
  rw[hi] at HI;have HE':Hid (ok=false):=by show _=_; rw[HE.out,hi]; rfl
  clear HE hi;go_enter Tryz.func39,Tryz.ntmps39;go_wp2_with fail;refine (HI.out _).mono ?_;rintro e w1 ⟨rfl,hb⟩;have HB:=zd (HA.out.trans (hb.mono (by simp)));clear hb;go_wp2_with fail;go_ret;exact⟨by rw[HE'.out]; rfl,HB.out⟩
 |true=>
  rw[hi] at HI
  cases hk:xD y with
  |false=>
   rw[hk] at HK;have HE':Hid (ok=false):=by show _=_; rw[HE.out,hi,hk]; rfl
   clear HE hi hk;go_enter Tryz.func39,Tryz.ntmps39;go_wp2_with fail;refine (HI.out _).mono ?_;rintro e w1 ⟨rfl,hb⟩;have HB:=zd (HA.out.trans (hb.mono (by simp)));have hc:∀o,w1.cell? ⟨w.heap.size,o,none⟩=(w.alloc (.cells #[.string x,.string y] 74)).cell? ⟨w.heap.size,o,none⟩:=fun o=>hb.cell (p:=⟨w.heap.size,o,none⟩) (by simp)
   clear hb;go_wp2_with fail;refine (HK.out _).mono ?_;rintro e w2 ⟨rfl,rfl⟩;go_wp2_with fail;go_ret;exact⟨by rw[HE'.out]; rfl,HB.out⟩
  |true=>
   rw[hk] at HK
   cases ho:xM y
   all_goals
    rw[ho] at HO;have HE':Hid (ok=_):=HE.out.trans (by rw[hi,hk,ho]);clear HE hi hk ho;go_enter Tryz.func39,Tryz.ntmps39;go_wp2_with fail;refine (HI.out _).mono ?_;rintro e w1 ⟨rfl,hb⟩;have HB:=zd (HA.out.trans (hb.mono (by simp)));have hc:∀o,w1.cell? ⟨w.heap.size,o,none⟩=(w.alloc (.cells #[.string x,.string y] 74)).cell? ⟨w.heap.size,o,none⟩:=fun o=>hb.cell (p:=⟨w.heap.size,o,none⟩) (by simp)
    clear hb;go_wp2_with fail;refine (HK.out _).mono ?_;rintro e w2 ⟨rfl,rfl⟩;go_wp2_with fail;refine (HO.out _).mono ?_;rintro e w2 ⟨rfl,rfl⟩;go_wp2_with fail;go_ret;exact⟨by rw[HE'.out]; rfl,HB.out⟩
theorem zh4 {p:ByteArray->Bool} {l:List ByteArray} {k:Nat} (hk:k<l.length):(l.drop k).all p=(p l[k]&&(l.drop (k+1)).all p):=by
 rw[List.drop_eq_getElem_cons hk,List.all_cons]
theorem zcb (S:Nat->Prop) (g:Sg) (v:Value) (w:World) (hS:∀b,S b->b<w.heap.size) (hv:qB S w g v) :
  Calls Tryz.prog 42 #[v] w fun e w'=>e=.returned (.int .i64 (Kd (V5 g)))/\Below w.heap.size w w':=by
 obtain⟨vp,rfl,h0,h1,hp⟩:=hv;have HP:=zd hp;have hlen:=hp.len;unfold maxLen at hlen;obtain⟨a,cap,rfl⟩:=hp.is;have HE:Hid (V5 g=(zf g.name&&(decide (g.params.length<=8)&&(xD g.result&&g.params.all xD)))):=rfl;have HI:Hid (∀W,Calls Tryz.prog 88 #[.string g.name] W fun e w'=>e=.returned (.bool (zf g.name))/\Below W.heap.size W w'):=fun W=>zX _ h0 W
 have HK:Hid (∀W,Calls Tryz.prog 89 #[.string g.result] W fun e w'=>e=.returned (.bool (xD g.result))/\W=w'):=fun W=>X6 _ h1 W
 have HA:Hid (Below w.heap.size w (w.alloc (.cells #[.string g.name,.slice a g.params.length cap,.string g.result] 76))):=(Below.refl _ _).alloc (Nat.le_refl _) _;clear hp;generalize V5 g=ok at *;generalize g.name=x at *;generalize g.result=y at *;generalize g.params=ps at *
 cases hi:zf x with
 |false=>
  rw[hi] at HI;have HE':Hid (ok=false):=by show _=_; rw[HE.out,hi]; rfl
  clear HE hi;go_enter Tryz.func42,Tryz.ntmps42;go_wp2_with fail;refine (HI.out _).mono ?_;rintro e w1 ⟨rfl,hb⟩;have HB:=zd (HA.out.trans (hb.mono (by simp)));clear hb;go_wp2_with fail;go_ret;exact⟨by rw[HE'.out]; rfl,HB.out⟩
 |true=>
  rw[hi] at HI
  by_cases h8:ps.length<=8
  case neg=>
   have h8':(8:Int)<(ps.length:Int):=by omega
   have HE':Hid (ok=false):=by show _=_; rw[HE.out,hi]; simp[h8]
   clear HE hi h8;go_enter Tryz.func42,Tryz.ntmps42;go_wp2_with fail;refine (HI.out _).mono ?_;rintro e w1 ⟨rfl,hb⟩;have HB:=zd (HA.out.trans (hb.mono (by simp)));have hc:∀o,w1.cell? ⟨w.heap.size,o,none⟩=(w.alloc (.cells #[.string x,.slice a ps.length cap,.string y] 76)).cell? ⟨w.heap.size,o,none⟩:=fun o=>hb.cell (p:=⟨w.heap.size,o,none⟩) (by simp)
   clear hb;go_wp2_with fail;go_ret;exact⟨by rw[HE'.out]; rfl,HB.out⟩
  have h8':¬(8:Int)<(ps.length:Int):=by omega
  have HE1:Hid (ok=(xD y&&ps.all xD)):=by show _=_; rw[HE.out,hi]; simp[h8]
  clear HE hi h8
  cases hk:xD y with
  |false=>
   rw[hk] at HK;have HE':Hid (ok=false):=by show _=_; rw[HE1.out,hk]; rfl
   clear HE1 hk;go_enter Tryz.func42,Tryz.ntmps42;go_wp2_with fail;refine (HI.out _).mono ?_;rintro e w1 ⟨rfl,hb⟩;have HB:=zd (HA.out.trans (hb.mono (by simp)));have hc:∀o,w1.cell? ⟨w.heap.size,o,none⟩=(w.alloc (.cells #[.string x,.slice a ps.length cap,.string y] 76)).cell? ⟨w.heap.size,o,none⟩:=fun o=>hb.cell (p:=⟨w.heap.size,o,none⟩) (by simp)
   clear hb;go_wp2_with fail;refine (HK.out _).mono ?_;rintro e w2 ⟨rfl,rfl⟩;go_wp2_with fail;go_ret;exact⟨by rw[HE'.out]; rfl,HB.out⟩
  |true=>
   rw[hk] at HK;have HE':Hid (ok=ps.all xD):=by show _=_; rw[HE1.out,hk]; rfl
   clear HE1 hk;go_enter Tryz.func42,Tryz.ntmps42;go_wp2_with fail;refine (HI.out _).mono ?_;rintro e w1 ⟨rfl,hb⟩;have HB:=zd (HA.out.trans (hb.mono (by simp)));have hc:∀o,w1.cell? ⟨w.heap.size,o,none⟩=(w.alloc (.cells #[.string x,.slice a ps.length cap,.string y] 76)).cell? ⟨w.heap.size,o,none⟩:=fun o=>hb.cell (p:=⟨w.heap.size,o,none⟩) (by simp)
   clear hb;go_wp2_with fail;refine (HK.out _).mono ?_;rintro e w2 ⟨rfl,rfl⟩;go_wp2_with fail;clear hc HI HK HA
   go_loopw [24] (fun i wr=>∃j:Nat,j<=ps.length/\i=.int .i64 j/\ok=(ps.drop j).all xD/\wr=w1) (fun i _=>ps.length - (intOf i).toNat)
   case atStart=>exact⟨0,Nat.zero_le _,rfl,HE'.out,rfl⟩
   case round=>
    obtain⟨j,hj,rfl,hq,rfl⟩:=hrel;have HQ:=zd hq;clear hq HE'
    by_cases hlt:j<ps.length
    ·have hlt':(j:Int)<(ps.length:Int):=by omega
     obtain⟨_,b,off,rfl,hb,a0,m0⟩:=HP.out.at hlt;rw[Nat.mul_one] at a0;have d0:=(HB.out.cell (p:=⟨b,off+j,none⟩) (hS b hb)).trans a0;have HS:Hid (ok=(xD ps[j]&&(ps.drop (j+1)).all xD)):=HQ.out.trans (zh4 hlt);have HK:Hid (∀W,Calls Tryz.prog 89 #[.string ps[j]] W fun e w'=>e=.returned (.bool (xD ps[j]))/\W=w'):=fun W=>X6 _ m0 W
     clear a0 m0 HP HQ;generalize ps[j]=z at *
     cases hz:xD z with
     |true=>
      rw[hz] at HK;have HS':Hid (ok=(ps.drop (j+1)).all xD):=by show _=_; rw[HS.out,hz]; rfl
      clear HS hz;go_wp2_with fail;refine (HK.out _).mono ?_;rintro e w2 ⟨rfl,rfl⟩;go_wp2_with fail;exact⟨⟨j+1,by omega,by go_num,HS'.out,by simp⟩,by simp[intOf]; omega⟩
     |false=>
      rw[hz] at HK;have HS':Hid (ok=false):=by show _=_; rw[HS.out,hz]; rfl
      clear HS hz;go_wp2_with fail;refine (HK.out _).mono ?_;rintro e w2 ⟨rfl,rfl⟩;go_wp2_with fail;go_ret;exact⟨by rw[HS'.out]; rfl,HB.out⟩
    ·have hnl:¬(j:Int)<(ps.length:Int):=by omega
     have HS':Hid (ok=true):=by show _=_; rw[HQ.out,List.drop_eq_nil_of_le (by omega)]; rfl
     clear HP HQ;go_wp2_with fail;go_ret;exact⟨by rw[HS'.out]; rfl,HB.out⟩
def ZS (x:ByteArray):List ByteArray->List ByteArray
 |[]=>[x]
 |y::r=>if gtB y x=true then x::y::r else y::ZS x r
theorem zbm (x:ByteArray):∀l:List ByteArray,(ZS x l).length=l.length+1
 |[]=>rfl
 |y::r=>by
  unfold ZS
  split
  ·rfl
  ·simp only[List.length_cons,zbm x r]
theorem zbn {x y:ByteArray}:∀{l:List ByteArray},y∈ZS x l->y=x\/y∈l
 |[],h=>by simp[ZS] at h; exact Or.inl h
 |z::r,h=>by
  unfold ZS at h
  split at h
  ·rcases List.mem_cons.1 h with e|e
   ·exact Or.inl e
   ·exact Or.inr e
  ·rcases List.mem_cons.1 h with e|e
   ·exact Or.inr (by rw[e]; exact List.mem_cons_self ..)
   ·rcases zbn (l:=r) e with e|e
    ·exact Or.inl e
    ·exact Or.inr (List.mem_cons_of_mem _ e)
def kM (u:List ByteArray) (k:Nat):ByteArray:=(u[k]?).getD ⟨#[]⟩
def YP (x:ByteArray) (out:List ByteArray):List ByteArray:=if qu out x=true then out else ZS x out
def yv (u:List ByteArray):Nat->List ByteArray
 |0=>[]
 |k+1=>YP (kM u k) (yv u k)
theorem ze4 {u:List ByteArray} {k:Nat} (h:k<u.length):kM u k=u[k]:=by
 unfold kM;rw[List.getElem?_eq_getElem h]; rfl
theorem zht (x:ByteArray) (l:List ByteArray):(YP x l).length<=l.length+1:=by
 unfold YP
 split
 ·omega
 ·rw[zbm]; omega
theorem KT (u:List ByteArray):∀k,(yv u k).length<=k
 |0=>Nat.le_refl _
 |k+1=>by
  have:=KT u k;have:=zht (kM u k) (yv u k);rw[yv]; omega
theorem Xr {u:List ByteArray} (h:∀s∈u,s.size<=8):∀k,∀s∈yv u k,s.size<=8
 |0,s,hs=>by cases hs
 |k+1,s,hs=>by
  rw[yv] at hs;unfold YP at hs
  split at hs
  ·exact Xr h k s hs
  ·rcases zbn hs with e|e
   ·rw[e]
    unfold kM
    cases hk:u[k]? with
    |none=>exact Nat.zero_le _
    |some y=>exact h y (List.mem_of_getElem? hk)
   ·exact Xr h k s e
def InT (x:ByteArray) (out tgt nxt:List ByteArray) (j:Nat) (done:Bool):Prop:=nxt++(if done=true then out.drop j else ZS x (out.drop j))=tgt
theorem InT.start (x:ByteArray) (out:List ByteArray):InT x out (YP x out) [] 0 (qu out x):=by
 unfold InT YP
 cases qu out x <;> simp
theorem InT.len {x:ByteArray} {out tgt nxt:List ByteArray} {j:Nat} {done:Bool} (h:InT x out tgt nxt j done):nxt.length<=tgt.length:=by
 have:=congrArg List.length h;rw[List.length_append] at this;omega
theorem InT.on {x:ByteArray} {out tgt nxt:List ByteArray} {j:Nat} (h:InT x out tgt nxt j true) (hj:j<out.length):InT x out tgt (nxt++[out[j]]) (j+1) true:=by
 unfold InT at *;rw[if_pos rfl] at *;rw[List.append_assoc,List.singleton_append,<- List.drop_eq_getElem_cons hj];exact h
theorem InT.keep {x:ByteArray} {out tgt nxt:List ByteArray} {j:Nat} (h:InT x out tgt nxt j false) (hj:j<out.length) (hg:gtB out[j] x=false):InT x out tgt (nxt++[out[j]]) (j+1) false:=by
 unfold InT at *;rw[if_neg (by decide)] at *;rw[List.drop_eq_getElem_cons hj,ZS,if_neg (by rw[hg]; decide)] at h;rw[List.append_assoc,List.singleton_append];exact h
theorem InT.put {x:ByteArray} {out tgt nxt:List ByteArray} {j:Nat} (h:InT x out tgt nxt j false) (hj:j<out.length) (hg:gtB out[j] x=true):InT x out tgt (nxt++[x]++[out[j]]) (j+1) true:=by
 unfold InT at *;rw[if_neg (by decide)] at h;rw[if_pos rfl];rw[List.drop_eq_getElem_cons hj,ZS,if_pos hg] at h;rw[List.append_assoc,List.append_assoc,List.singleton_append,List.singleton_append];exact h
theorem InT.whole {x:ByteArray} {out tgt nxt:List ByteArray} {j:Nat} (h:InT x out tgt nxt j true) (hj:out.length<=j):nxt=tgt:=by
 unfold InT at h;rw[if_pos rfl,List.drop_eq_nil_of_le hj,List.append_nil] at h;exact h
theorem InT.last {x:ByteArray} {out tgt nxt:List ByteArray} {j:Nat} (h:InT x out tgt nxt j false) (hj:out.length<=j):nxt++[x]=tgt:=by
 unfold InT at h;rw[if_neg (by decide),List.drop_eq_nil_of_le hj,ZS] at h;exact h
def zw {α:Type} (fault:α->Int) (name:α->ByteArray):List α->ByteArray->Int
 |[],_=>0
 |x::r,p=>if fault x=0 then (if gtB (name x) p=true then zw fault name r (name x) else 7) else fault x
theorem YQ {α:Type} {fault:α->Int} {name:α->ByteArray} {l:List α} {k:Nat} {p:ByteArray} (hk:k<l.length) (h:fault l[k]≠0):zw fault name (l.drop k) p=fault l[k]:=by
 rw[List.drop_eq_getElem_cons hk,zw,if_neg h]
theorem YR {α:Type} {fault:α->Int} {name:α->ByteArray} {l:List α} {k:Nat} {p:ByteArray} (hk:k<l.length) (h:fault l[k]=0) (hg:gtB (name l[k]) p=false):zw fault name (l.drop k) p=7:=by
 rw[List.drop_eq_getElem_cons hk,zw,if_pos h,if_neg (by rw[hg]; simp)]
theorem V6 {α:Type} {fault:α->Int} {name:α->ByteArray} {l:List α} {k:Nat} {p:ByteArray} (hk:k<l.length) (h:fault l[k]=0) (hg:gtB (name l[k]) p=true):zw fault name (l.drop k) p=zw fault name (l.drop (k+1)) (name l[k]):=by
 rw[List.drop_eq_getElem_cons hk,zw,if_pos h,if_pos hg]
theorem YS {α:Type} {fault:α->Int} {name:α->ByteArray} {l:List α} {k:Nat} {p:ByteArray} (hk:l.length<=k):zw fault name (l.drop k) p=0:=by
 rw[List.drop_eq_nil_of_le hk,zw]
def xY (k:Kn):Int:=Kd (X5 k)
def vE (g:Sg):Int:=Kd (V5 g)
def je (w:World) (p:ByteArray) (W:World):Prop:=Below w.heap.size w W/\w.heap.size<W.heap.size/\W.cell? ⟨w.heap.size,0,none⟩=some (.string p)/\W.frozen? ⟨w.heap.size,0,none⟩=false
theorem je.start (w:World):je w ⟨#[]⟩ (w.alloc (.cells #[.string ⟨#[]⟩] 9)):=
 ⟨(Below.refl _ _).alloc (Nat.le_refl _) _,by simp,by simp[go_sem],by simp[go_sem]⟩
theorem je.later {w:World} {p:ByteArray} {W W':World} (h:je w p W) (hb:Below W.heap.size W W'):je w p W':=
 ⟨h.1.trans (hb.mono h.1.size),Nat.lt_of_lt_of_le h.2.1 hb.size,(hb.cell h.2.1).trans h.2.2.1,(hb.frozen h.2.1).trans h.2.2.2⟩
theorem je.put {w:World} {p:ByteArray} {W:World} (h:je w p W) (s:ByteArray):je w s (W.setCell ⟨w.heap.size,0,none⟩ (.string s)):=
 ⟨h.1.setCell (Nat.le_refl _) _,by simpa [World.setCell] using h.2.1,World.cell?_setCell_same' _ _ _ (by rw[h.2.2.1]; rfl),by rw[<- h.2.2.2]; simp[go_sem]⟩
theorem zdE (S:Nat->Prop) (l:List Kn) (v:Value) (w:World) (hS:∀b,S b->b<w.heap.size) (hv:ze S (jp w) 2 l v) :
  Calls Tryz.prog 37 #[v,.func (.func 38) #[] #[],.func (.func 39) #[] #[]] w fun e w'=>e=.returned (.int .i64 (zw xY Kn.name l ⟨#[]⟩))/\Below w.heap.size w w':=by
 have HV:=zd hv;have hlen:=hv.len;unfold maxLen at hlen;obtain⟨a,cap,rfl⟩:=hv.is;have HA:=zd (je.start w);clear hv;go_enter Tryz.func37,Tryz.ntmps37;go_wp2_with fail;refine (X7 _).mono ?_;rintro e w1 ⟨rfl,rfl⟩;go_wp2_with fail
 go_loopw [14] (fun i wr=>∃(j:Nat) (p:ByteArray),j<=l.length/\i=.int .i64 j/\zw xY Kn.name l ⟨#[]⟩=zw xY Kn.name (l.drop j) p/\je w p wr) (fun i _=>l.length - (intOf i).toNat)
 case atStart=>exact⟨0,_,Nat.zero_le _,rfl,rfl,HA.out⟩
 case round=>
  obtain⟨j,p,hj,rfl,hq,hah⟩:=hrel;have HQ:=zd hq;clear hq HA
  by_cases hlt:j<l.length
  ·have hlt':(j:Int)<(l.length:Int):=by omega
   obtain⟨_,b,off,rfl,hb,⟨a0,m0⟩,a1,m1⟩:=HV.out.at hlt;have hbk:=hS b hb;have d0:=(hah.1.cell (p:=⟨b,off+j * 2,none⟩) hbk).trans a0;have d1:=(hah.1.cell (p:=⟨b,off+j * 2+1,none⟩) hbk).trans a1;have hbr:b<wr.heap.size:=Nat.lt_of_lt_of_le hbk hah.1.size;have HC:Hid (∀W,Calls Tryz.prog 39 #[.agg #[.string l[j].name,.string l[j].is]] W fun e w'=>e=.returned (.int .i64 (xY l[j]))/\Below W.heap.size W w'):=fun W=>zca _ m0 m1 W
   have HBad:=zd (@YQ _ xY Kn.name l j p hlt);have HLow:=zd (@YR _ xY Kn.name l j p hlt);have HOn:=zd (@V6 _ xY Kn.name l j p hlt);have HAh:Hid (∀o W,Below (wr.alloc o).heap.size (wr.alloc o) W->je w p W):=fun o W hW=>(hah.later ((Below.refl _ _).alloc (Nat.le_refl _) o)).later hW
   have HCe:Hid (∀x y W,Below (wr.alloc (.cells #[.string x,.string y] 74)).heap.size (wr.alloc (.cells #[.string x,.string y] 74)) W->W.cell? ⟨wr.heap.size,0,none⟩=some (.string x)/\W.cell? ⟨wr.heap.size,1,none⟩=some (.string y)):=fun x y W hW=>
    ⟨(hW.cell (p:=⟨wr.heap.size,0,none⟩) (by simp)).trans (by simp[go_sem]),(hW.cell (p:=⟨wr.heap.size,1,none⟩) (by simp)).trans (by simp[go_sem])⟩
   clear a0 a1 m0 m1 HV hah;generalize xY l[j]=n at *;generalize l[j].name=x at *;generalize l[j].is=y at *
   by_cases hn:n=0
   ·subst hn
    go_wp2_with fail;refine (HC.out _).mono ?_;rintro e w1 ⟨rfl,hb1⟩;obtain⟨e0,e1⟩:=HCe.out _ _ _ hb1;have ha1:=HAh.out _ _ hb1;have HA1:=zd ha1;clear hb1 ha1;go_wp2_with fail;refine (zbk x y _).mono ?_;rintro e w2 ⟨rfl,hb2⟩;have ha2:=HA1.out.later hb2;have HA2:=zd ha2;obtain⟨-,hsz2,hc2,hf2⟩:=ha2;clear hb2
    cases hg:gtB x p with
    |true=>
     have HOn':=zd (HOn.out trivial hg);go_wp2_with fail;refine (jx w.heap.size x p _ hc2 hf2).mono ?_;rintro e w3 ⟨rfl,rfl⟩;rw[hg];go_wp2_with fail;exact⟨⟨j+1,x,by omega,by go_num,HQ.out.trans HOn'.out,HA2.out.put x⟩,by simp[intOf]; omega⟩
    |false=>
     have HLow':=zd (HLow.out trivial hg);have HF:Hid (∀s,Below w.heap.size w (w2.setCell ⟨w.heap.size,0,none⟩ (.string s))):=fun s=>(HA2.out.put s).1
     go_wp2_with fail;refine (jx w.heap.size x p _ hc2 hf2).mono ?_;rintro e w3 ⟨rfl,rfl⟩;rw[hg];go_wp2_with fail;go_ret;exact⟨by rw[HQ.out,HLow'.out]; rfl,HF.out _⟩
   ·have hn':(n != 0)=true:=by simpa using hn
    have HBad':=zd (HBad.out hn);clear hn;go_wp2_with fail;refine (HC.out _).mono ?_;rintro e w1 ⟨rfl,hb1⟩;have HB1:=zd (HAh.out _ _ hb1).1;clear hb1;go_wp2_with fail;go_ret;exact⟨by rw[HQ.out,HBad'.out]; rfl,HB1.out⟩
  ·have hnl:¬(j:Int)<(l.length:Int):=by omega
   have HE:Hid (zw xY Kn.name l ⟨#[]⟩=0):=HQ.out.trans (YS (by omega));have HB:=zd hah.1;clear HV hah HQ;go_wp2_with fail;go_ret;exact⟨by rw[HE.out]; rfl,HB.out⟩
theorem zdF (S:Nat->Prop) (l:List Sg) (v:Value) (w:World) (hS:∀b,S b->b<w.heap.size) (hv:ze S (ju S w) 3 l v) :
  Calls Tryz.prog 40 #[v,.func (.func 41) #[] #[],.func (.func 42) #[] #[]] w fun e w'=>e=.returned (.int .i64 (zw vE Sg.name l ⟨#[]⟩))/\Below w.heap.size w w':=by
 have HV:=zd hv;have hlen:=hv.len;unfold maxLen at hlen;obtain⟨a,cap,rfl⟩:=hv.is;have HA:=zd (je.start w);clear hv;go_enter Tryz.func40,Tryz.ntmps40;go_wp2_with fail;refine (X7 _).mono ?_;rintro e w1 ⟨rfl,rfl⟩;go_wp2_with fail
 go_loopw [14] (fun i wr=>∃(j:Nat) (p:ByteArray),j<=l.length/\i=.int .i64 j/\zw vE Sg.name l ⟨#[]⟩=zw vE Sg.name (l.drop j) p/\je w p wr) (fun i _=>l.length - (intOf i).toNat)
 case atStart=>exact⟨0,_,Nat.zero_le _,rfl,rfl,HA.out⟩
 case round=>
  obtain⟨j,p,hj,rfl,hq,hah⟩:=hrel;have HQ:=zd hq;clear hq HA
  by_cases hlt:j<l.length
  ·have hlt':(j:Int)<(l.length:Int):=by omega
   obtain⟨_,b,off,rfl,hb,hat⟩:=HV.out.at hlt;have hbk:=hS b hb;obtain⟨p1,p2,p3,a0,a1,a2,hsg⟩:=XH hat;have d0:=(hah.1.cell (p:=⟨b,off+j * 3,none⟩) hbk).trans a0;have d1:=(hah.1.cell (p:=⟨b,off+j * 3+1,none⟩) hbk).trans a1;have d2:=(hah.1.cell (p:=⟨b,off+j * 3+2,none⟩) hbk).trans a2;have hbr:b<wr.heap.size:=Nat.lt_of_lt_of_le hbk hah.1.size;have HC:Hid (∀W,Below wr.heap.size wr W->Calls Tryz.prog 42 #[.agg #[.string l[j].name,.slice p1 p2 p3,.string l[j].result]] W fun e w'=>e=.returned (.int .i64 (vE l[j]))/\Below W.heap.size W w'):=fun W hW=>by
    have hbW:=hah.1.trans (hW.mono hah.1.size);exact zcb S _ _ W (fun b hb=>Nat.lt_of_lt_of_le (hS b hb) hbW.size) (hsg.keep (Keeps.below hbW hS))
   have HAl:Hid (∀o,Below wr.heap.size wr (wr.alloc o)):=fun o=>(Below.refl _ _).alloc (Nat.le_refl _) _
   have HBad:=zd (@YQ _ vE Sg.name l j p hlt);have HLow:=zd (@YR _ vE Sg.name l j p hlt);have HOn:=zd (@V6 _ vE Sg.name l j p hlt);have HAh:Hid (∀o W,Below (wr.alloc o).heap.size (wr.alloc o) W->je w p W):=fun o W hW=>(hah.later ((Below.refl _ _).alloc (Nat.le_refl _) o)).later hW
   have HCe:Hid (∀x y W,Below (wr.alloc (.cells #[.string x,.slice p1 p2 p3,.string y] 76)).heap.size (wr.alloc (.cells #[.string x,.slice p1 p2 p3,.string y] 76)) W->W.cell? ⟨wr.heap.size,0,none⟩=some (.string x)/\W.cell? ⟨wr.heap.size,1,none⟩=some (.slice p1 p2 p3)/\W.cell? ⟨wr.heap.size,2,none⟩=some (.string y)):=fun x y W hW=>
    ⟨(hW.cell (p:=⟨wr.heap.size,0,none⟩) (by simp)).trans (by simp[go_sem]),(hW.cell (p:=⟨wr.heap.size,1,none⟩) (by simp)).trans (by simp[go_sem]),(hW.cell (p:=⟨wr.heap.size,2,none⟩) (by simp)).trans (by simp[go_sem])⟩
   clear a0 a1 a2 hsg hat HV hah;generalize vE l[j]=n at *;generalize l[j].name=x at *;generalize l[j].result=y at *
   by_cases hn:n=0
   ·subst hn
    go_wp2_with fail;refine (HC.out _ (HAl.out _)).mono ?_;rintro e w1 ⟨rfl,hb1⟩;obtain⟨e0,e1,e2⟩:=HCe.out _ _ _ hb1;have ha1:=HAh.out _ _ hb1;have HA1:=zd ha1;clear hb1 ha1;go_wp2_with fail;refine (zbl x y _ _ _ _).mono ?_;rintro e w2 ⟨rfl,hb2⟩;have ha2:=HA1.out.later hb2;have HA2:=zd ha2;obtain⟨-,hsz2,hc2,hf2⟩:=ha2;clear hb2
    cases hg:gtB x p with
    |true=>
     have HOn':=zd (HOn.out trivial hg);go_wp2_with fail;refine (jx w.heap.size x p _ hc2 hf2).mono ?_;rintro e w3 ⟨rfl,rfl⟩;rw[hg];go_wp2_with fail;exact⟨⟨j+1,x,by omega,by go_num,HQ.out.trans HOn'.out,HA2.out.put x⟩,by simp[intOf]; omega⟩
    |false=>
     have HLow':=zd (HLow.out trivial hg);have HF:Hid (∀s,Below w.heap.size w (w2.setCell ⟨w.heap.size,0,none⟩ (.string s))):=fun s=>(HA2.out.put s).1
     go_wp2_with fail;refine (jx w.heap.size x p _ hc2 hf2).mono ?_;rintro e w3 ⟨rfl,rfl⟩;rw[hg];go_wp2_with fail;go_ret;exact⟨by rw[HQ.out,HLow'.out]; rfl,HF.out _⟩
   ·have hn':(n != 0)=true:=by simpa using hn
    have HBad':=zd (HBad.out hn);clear hn;go_wp2_with fail;refine (HC.out _ (HAl.out _)).mono ?_;rintro e w1 ⟨rfl,hb1⟩;have HB1:=zd (HAh.out _ _ hb1).1;clear hb1;go_wp2_with fail;go_ret;exact⟨by rw[HQ.out,HBad'.out]; rfl,HB1.out⟩
  ·have hnl:¬(j:Int)<(l.length:Int):=by omega
   have HE:Hid (zw vE Sg.name l ⟨#[]⟩=0):=HQ.out.trans (YS (by omega));have HB:=zd hah.1;clear HV hah HQ;go_wp2_with fail;go_ret;exact⟨by rw[HE.out]; rfl,HB.out⟩
def zW (f:Fc):Int:=
 if 24<wrap64 ((f.types.length:Int)+f.funcs.length) then 1 else
 if zw xY Kn.name f.types ⟨#[]⟩=0 then zw vE Sg.name f.funcs ⟨#[]⟩ else zw xY Kn.name f.types ⟨#[]⟩
theorem v8 (S:Nat->Prop) (f:Fc) (v:Value) (w:World) (hS:∀b,S b->b<w.heap.size) (hv:qC S w f v) :
  Calls Tryz.prog 14 #[v] w fun e w'=>e=.returned (.int .i64 (zW f))/\Below w.heap.size w w':=by
 obtain⟨vt,vf,rfl,ht,hf⟩:=hv;have HE:Hid (zW f=if 24<wrap64 ((f.types.length:Int)+f.funcs.length) then 1 else if zw xY Kn.name f.types ⟨#[]⟩=0 then zw vE Sg.name f.funcs ⟨#[]⟩ else zw xY Kn.name f.types ⟨#[]⟩):=rfl;have HC:Hid (∀W:World,Below w.heap.size w W->Calls Tryz.prog 37 #[vt,.func (.func 38) #[] #[],.func (.func 39) #[] #[]] W fun e w'=>e=.returned (.int .i64 (zw xY Kn.name f.types ⟨#[]⟩))/\Below W.heap.size W w'):=fun W hW=>
  zdE S _ _ W (fun b hb=>Nat.lt_of_lt_of_le (hS b hb) hW.size) (vj (Keeps.below hW hS) ht)
 have HD:Hid (∀W:World,Below w.heap.size w W->Calls Tryz.prog 40 #[vf,.func (.func 41) #[] #[],.func (.func 42) #[] #[]] W fun e w'=>e=.returned (.int .i64 (zw vE Sg.name f.funcs ⟨#[]⟩))/\Below W.heap.size W w'):=fun W hW=>
  zdF S _ _ W (fun b hb=>Nat.lt_of_lt_of_le (hS b hb) hW.size) (yO (Keeps.below hW hS) hf)
 have h1:=ht.len;have h2:=hf.len;unfold maxLen at h1 h2;obtain⟨a,cap,rfl⟩:=ht.is;obtain⟨a2,cap2,rfl⟩:=hf.is;have HA:Hid (Below w.heap.size w (w.alloc (.cells #[.slice a f.types.length cap,.slice a2 f.funcs.length cap2] 26))):=(Below.refl _ _).alloc (Nat.le_refl _) _;clear ht hf hS;generalize zw xY Kn.name f.types ⟨#[]⟩=p at *;generalize zw vE Sg.name f.funcs ⟨#[]⟩=q at *;generalize zW f=r at *
 by_cases h24:24<wrap64 ((f.types.length:Int)+f.funcs.length)
 ·have HE':Hid (r=1):=HE.out.trans (if_pos h24)
  clear HE;go_enter Tryz.func14,Tryz.ntmps14;go_wp2_with fail;go_ret;exact⟨by rw[HE'.out]; rfl,HA.out⟩
 ·have HE1:Hid (r=if p=0 then q else p):=HE.out.trans (if_neg h24)
  clear HE;have hc:∀w1,Below (w.alloc (.cells #[.slice a f.types.length cap,.slice a2 f.funcs.length cap2] 26)).heap.size (w.alloc (.cells #[.slice a f.types.length cap,.slice a2 f.funcs.length cap2] 26)) w1->w1.cell? ⟨w.heap.size,1,none⟩=some (.slice a2 f.funcs.length cap2):=fun w1 hb=>(hb.cell (p:=⟨w.heap.size,1,none⟩) (by simp)).trans (by simp[go_sem])
  have HCe:=zd hc;clear hc
  by_cases hp:p=0
  ·have HE':Hid (r=q):=HE1.out.trans (if_pos hp)
   subst hp;clear HE1;go_enter Tryz.func14,Tryz.ntmps14;go_wp2_with fail;refine (HC.out _ HA.out).mono ?_;rintro e w1 ⟨rfl,hb⟩;have hc:=HCe.out _ hb;have HB:=zd (HA.out.trans (hb.mono (by simp)));clear hb;go_wp2_with fail;refine (HD.out _ HB.out).mono ?_;rintro e w2 ⟨rfl,hb2⟩;have HB2:=zd (HB.out.trans (hb2.mono HB.out.size));clear hb2 hc;go_wp2_with fail;go_ret;exact⟨by rw[HE'.out]; rfl,HB2.out⟩
  ·have HE':Hid (r=p):=HE1.out.trans (if_neg hp)
   have hp':(p != 0)=true:=by simpa using hp
   clear HE1 hp;go_enter Tryz.func14,Tryz.ntmps14;go_wp2_with fail;refine (HC.out _ HA.out).mono ?_;rintro e w1 ⟨rfl,hb⟩;have HB:=zd (HA.out.trans (hb.mono (by simp)));clear hb;go_wp2_with fail;go_ret;exact⟨by rw[HE'.out]; rfl,HB.out⟩
theorem X8 {s:ByteArray} (h:zf s=true):0<s.size:=by
 have h1:vG s=true:=by
  unfold zf at h;simp only[Bool.and_eq_true] at h;exact h.1
 by_cases hs:1<=s.size/\s.size<=8
 ·omega
 ·rw[Ys s hs] at h1
  cases h1
theorem V7 {s:ByteArray} (h:zf s=true):gtB s ⟨#[]⟩=true:=by
 have hz:=X8 h;have h0:s.toList≠[]:=by
  rw[Lib.toList_data];intro e;have h1:=congrArg List.length e;rw[Array.length_toList] at h1;have h2:s.size=0:=h1;omega
 have he:(⟨#[]⟩:ByteArray).toList=[]:=by rw[Lib.toList_data]
 unfold gtB;rw[he]
 cases hs:s.toList with
 |nil=>exact absurd hs h0
 |cons a r=>rfl
end Go.Proofs.YtedpiamfpbdhoaaGreatDoor
