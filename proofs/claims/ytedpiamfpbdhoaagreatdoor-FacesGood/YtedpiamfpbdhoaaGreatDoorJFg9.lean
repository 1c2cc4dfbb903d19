import Derived.Test.YtedpiamfpbdhoaaGreatDoorJFg8
import Derived.RegionTactic
import Derived.ChangeAlike
import Derived.Lib.AppendStr
set_option maxHeartbeats 40000000
set_option maxRecDepth 100000
namespace Go.Proofs.YtedpiamfpbdhoaaGreatDoor
open Go.RowKit
theorem sizeBuilder:(Tryz.prog.info? 81).map (·.size)=some 2:=by kernel_rfl
theorem liesBuilder:liesAt Tryz.prog Tryz.prog.depth 83 (2 / Tryz.prog.cellsOf 83) 0 81 1=true:=by kernel_rfl
theorem infoByte:(Tryz.prog.info? 5).map (fun i=>(i.zero,i.size,i.bytes))=some (some (.int .u8 0),1,1):=by kernel_rfl
theorem zds (b:Nat) (w:World) (h0:w.cell? ⟨b,0,none⟩=some (.pointer (some ⟨b,0,none⟩))) :
  Calls Tryz.prog 138 #[.pointer (some ⟨b,0,none⟩)] w fun e w'=>e=.returned (.tuple #[])/\w=w':=by
 obtain⟨j,hj,_⟩:=Option.map_eq_some_iff.1 sizeBuilder;go_enter Tryz.func138,Tryz.ntmps138
 go_wp2
 rw[Lib.run_neq_ptr_same w _ Tryz.underlying78 hj]
 go_wp2
 go_end0;exact⟨rfl,rfl⟩
theorem zb5 (b:Nat) (w:World) (h0:w.cell? ⟨b,0,none⟩=some (.pointer none)) (hsh:w.shape? b=some (83,2)) (hfz:w.frozen? ⟨b,0,none⟩=false) :
  Calls Tryz.prog 138 #[.pointer (some ⟨b,0,none⟩)] w fun e w'=>e=.returned (.tuple #[])/\w.setCell ⟨b,0,none⟩ (.pointer (some ⟨b,0,none⟩))=w':=by
 obtain⟨j,hj,hjs⟩:=Option.map_eq_some_iff.1 sizeBuilder;go_enter Tryz.func138,Tryz.ntmps138
 go_wp2
 rw[Lib.run_to_unsafe w ⟨b,0,none⟩ Tryz.underlying78 Tryz.underlying257 hj (by rw[hjs]; decide) hsh (Nat.zero_lt_succ 1)];simp only[Result.andThen];rw[Oper.upon_value]
 go_wp2
 rw[run_callFunc_extern Tryz.func213 (by kernel_rfl) (by kernel_rfl) (by kernel_rfl) (e:=Extern.AbiNoEscape.same) (by kernel_rfl),Lib.run_noEscape];simp only[Result.andThen];rw[Oper.upon_value]
 go_wp2
 rw[Lib.run_from_unsafe w ⟨b,0,none⟩ Tryz.underlying257 Tryz.underlying78 hj hsh liesBuilder];simp only[Result.andThen];rw[Oper.upon_value]
 go_wp2
 go_end0;exact⟨rfl,rfl⟩
theorem zaz (B b:Nat) (bs:List Value) (w:World) (h:Lib.IsBuilder 83 5 B b bs w) :
  Calls Tryz.prog 138 #[.pointer (some ⟨b,0,none⟩)] w fun e w'=>e=.returned (.tuple #[])/\Lib.BuilderAt 83 5 B b (.pointer (some ⟨b,0,none⟩)) bs w'/\Below B w w'/\w'.heap.size=w.heap.size/\∀c,c≠b->w'.heap[c]? = w.heap[c]?:=by
 rcases h with h|h
 ·refine (zb5 b w h.cell0 h.shape h.frozen0).mono ?_
  rintro e w' ⟨rfl,rfl⟩;exact⟨rfl,h.used _,(Below.refl B w).setCell (p:=⟨b,0,none⟩) h.1 _,by simp,fun c hc=>Below.heap_setCell _ _ _ _ hc⟩
 ·refine (zds b w h.cell0).mono ?_
  rintro e w' ⟨rfl,rfl⟩;exact⟨rfl,h,Below.refl B _,rfl,fun _ _=>rfl⟩
def zcK (b:Nat) (w w':World):Prop:=∀c x t fz,c≠b->t≠5->w.heap[c]? = some (.cells x t fz)->w'.heap[c]? = w.heap[c]?
theorem zeC {w:World} {B:Nat} {v:Value} {n:Nat} {bs:List Value} (hown:w.ownsRow B 5 1 v n bs) {c:Nat} {x:Array Value} {t:TypeId} {fz:Nat×Nat} (ht:t≠5) (hc:w.heap[c]? = some (.cells x t fz)):some c≠v.ownBlock:=by
 intro h;obtain⟨_,⟨hv,_⟩|⟨g,cap,cur,hv,hg,hh,_⟩⟩:=hown
 ·rw[hv] at h
  cases h
 ·rw[hv] at h
  have e:c=g:=by simpa [Value.ownBlock] using h
  rw[e,hh] at hc;injection hc with hc
  injection hc with _ hc _
  exact ht hc.symm
theorem kK {w:World} {c:Nat} {o:Obj} (h:w.heap[c]? = some o):c<w.heap.size:=by
 rcases Nat.lt_or_ge c w.heap.size with h'|h'
 ·exact h'
 ·rw[Array.getElem?_eq_none h'] at h
  cases h
theorem zaA {B b:Nat} {v:Value} {w1 w2:World} {n:Nat} {bs:List Value} (hbk:w1.heap[b]? = some (.cells #[.pointer (some ⟨b,0,none⟩),v] 83 (0,0))) (hown:w1.ownsRow B 5 1 v n bs)
  (hne:v.ownBlock≠some b) (hgrow:w1.grownBy w2 v.ownBlock) :
  w2.heap[b]? = some (.cells #[.pointer (some ⟨b,0,none⟩),v] 83 (0,0))/\w2.cell? ⟨b,0,none⟩=some (.pointer (some ⟨b,0,none⟩))/\w2.cell? ⟨b,1,none⟩=some v/\w2.frozen? ⟨b,1,none⟩=false/\∀k,v.ownBlock=some k->B<=k:=by
 have hlt:b<w1.heap.size:=by
  rcases Nat.lt_or_ge b w1.heap.size with h'|h'
  ·exact h'
  ·simp[Array.getElem?_eq_none h'] at hbk
 have hb2:w2.heap[b]? = some (.cells #[.pointer (some ⟨b,0,none⟩),v] 83 (0,0)):=by
  rw[hgrow.block b hlt (fun e=>hne e.symm)];exact hbk
 exact⟨hb2,by rw[Lib.cell_of_heap hb2]; rfl,by rw[Lib.cell_of_heap hb2]; rfl,Lib.frozen_of_heap hb2 1,fun k hk=>(hown.lt k hk).1⟩
theorem Jw (B b:Nat) (bs:List Value) (s:ByteArray) (w:World) (h:Lib.IsBuilder 83 5 B b bs w) (hlen:bs.length+s.size<=140737488355328) (hBw:B<=w.heap.size) :
  Calls Tryz.prog 81 #[.pointer (some ⟨b,0,none⟩),.string s] w fun e w'=>
   e=.returned (.tuple #[.int .i64 s.size,.nilIface])/\Lib.IsBuilder 83 5 B b (bs++Lib.strCells s) w'/\Below B w w'/\zcK b w w':=by
 obtain⟨i0,hi,hz0,hz1,hz2⟩:=info_parts infoByte;go_enter Tryz.func81,Tryz.ntmps81;go_wp2_with (go_at_call 138; refine (zaz B b bs _ h).mono ?_);rintro e w1 ⟨rfl,⟨hB,v,hbk,hown,hne⟩,hb1,hsz1,hk1⟩;have HK1:=zd hk1;have HZ1:=zd hsz1;clear hk1 hsz1;have hs1:=hb1.size;have c0:w1.cell? ⟨b,0,none⟩=some (.pointer (some ⟨b,0,none⟩)):=by rw[Lib.cell_of_heap hbk]; rfl
 have c1:w1.cell? ⟨b,1,none⟩=some v:=by rw[Lib.cell_of_heap hbk]; rfl
 go_wp2_with (at_builtin; refine Lib.wpList_append_own_string _ rfl _ _ 79 9 rfl B 5 i0 Tryz.underlying79 Tryz.underlying9 hi hz0 hz1 hz2 _ _ _ rfl hown s rfl ?c3 ?c4 ?c5 ?_)
 case c3=>unfold maxLen; omega
 case c4=>omega
 case c5=>omega
 intro v' w2 hown' hgrow _;obtain⟨hb2,d0,d1,f1,hrow⟩:=zaA hbk hown hne hgrow;obtain⟨ao,n',cap,rfl⟩:∃ao n' cap,v'=.slice ao n' cap:=by
  rcases hown'.2 with ⟨hv,_⟩|⟨g,cap,cur,hv,_⟩
  ·exact⟨_,_,_,hv⟩
  ·exact⟨_,_,_,hv⟩
 go_wp2
 go_ret2;refine⟨rfl,Or.inr ?_,?_,?_⟩
 ·exact Lib.BuilderAt.put (T:=83) (e:=5) hB hb2 (bs':=bs++Lib.strCells s) (by simpa [Lib.strCells_length] using hown') (by decide)
 ·exact (hb1.grown hgrow (by omega) hrow).setCell (p:=⟨b,1,none⟩) hB _
 ·intro c x t fz hc ht hx
  have h1:=HK1.out c hc;have hx1:=h1.trans hx;rw[Below.heap_setCell _ _ _ _ hc,hgrow.block c (kK hx1) (zeC hown ht hx1),h1]
theorem zaB {T e:TypeId} {B b:Nat} {bs:List Value} {w w':World} (h:Lib.IsBuilder T e B b bs w) (hb:Below w.heap.size w w'):Lib.IsBuilder T e B b bs w':=by
 have one:∀p,Lib.BuilderAt T e B b p bs w->Lib.BuilderAt T e B b p bs w':=by
  rintro p hp;have hlt:=hp.lt;obtain⟨hB,v,hbk,hown,hne⟩:=hp;refine⟨hB,v,?_,?_,hne⟩
  ·rw[hb.block b hlt]; exact hbk
  ·obtain⟨hx,h|⟨g,cap,cur,hv,hg,hh,h1,h2,h3,h4⟩⟩:=hown
   ·exact⟨hx,Or.inl h⟩
   ·refine⟨hx,Or.inr ⟨g,cap,cur,hv,hg,?_,h1,h2,h3,h4⟩⟩
    rw[hb.block g (kK hh)];exact hh
 rcases h with h|h
 ·exact Or.inl (one _ h)
 ·exact Or.inr (one _ h)
theorem ye {T e:TypeId} {B b:Nat} {bs:List Value} {w:World} (h:Lib.IsBuilder T e B b bs w):B<=b/\b<w.heap.size:=by
 rcases h with h|h
 ·exact⟨h.1,h.lt⟩
 ·exact⟨h.1,h.lt⟩
def kL (l:List UInt8):ByteArray:=⟨l.toArray⟩
theorem J8 (a:List UInt8) (s:ByteArray):Lib.byteCells a++Lib.strCells s=Lib.byteCells (a++s.data.toList):=by
 simp[Lib.byteCells,Lib.strCells]
def qf (B b:Nat) (l:List UInt8) (w:World):Prop:=Lib.IsBuilder 83 5 B b (Lib.byteCells l) w
theorem qf.below {B b:Nat} {l:List UInt8} {w w':World} (h:qf B b l w) (hb:Below w.heap.size w w'):qf B b l w':=zaB h hb
structure Went (B b:Nat) (w w':World):Prop where
 below:Below B w w'
 kept:zcK b w w'
theorem Went.refl (B b:Nat) (w:World):Went B b w w:=⟨Below.refl _ _,fun _ _ _ _ _ _ _=>rfl⟩
theorem Went.trans {B b:Nat} {w w' w'':World} (h:Went B b w w') (h':Went B b w' w''):Went B b w w'':=
 ⟨h.below.trans h'.below,fun c x t fz hc ht hx=>(h'.kept c x t fz hc ht ((h.kept c x t fz hc ht hx).trans hx)).trans (h.kept c x t fz hc ht hx)⟩
theorem Went.of_below {B b:Nat} {w w':World} (h:Below w.heap.size w w') (hB:B<=w.heap.size):Went B b w w':=⟨h.mono hB,fun c _ _ _ _ _ hx=>h.block c (kK hx)⟩
theorem Went.alloc {B b:Nat} {w w':World} (h:Went B b w w') (hB:B<=w'.heap.size) (o:Obj):Went B b w (w'.alloc o):=h.trans (Went.of_below ((Below.refl _ _).alloc (Nat.le_refl _) o) hB)
theorem Went.cell {B b:Nat} {w w':World} (h:Went B b w w') {c:Nat} {x:Array Value} {t:TypeId} {fz:Nat×Nat} (hx:w.heap[c]? = some (.cells x t fz)) (hc:c≠b) (ht:t≠5) (o:Nat):w'.cell? ⟨c,o,none⟩=x[o]?:=by
 rw[World.cell?_of_block (h.kept c x t fz hc ht hx),Lib.cell_of_heap hx]
def qI (ss:List ByteArray):Nat->List UInt8
 |0=>[]
 |k+1=>qI ss k++(ss[k]?).elim [] (fun s=>s.data.toList)
theorem KP (ss:List ByteArray):∀k j,k<=j->(qI ss k).length<=(qI ss j).length
 |k,0,h=>by
   have:k=0:=by omega
   subst this; exact Nat.le_refl _
 |k,j+1,h=>by
  by_cases e:k=j+1
  ·subst e; exact Nat.le_refl _
  ·have:=KP ss k j (by omega)
   simp only[qI,List.length_append]; omega
theorem zeD (B b r:Nat) (l:List UInt8) (ss:List ByteArray) (w:World) (h:qf B b l w) (hr:w.heap[r]? = some (.cells (ss.map Value.string).toArray 9 (0,0))) (hrb:r≠b) (hn:ss.length<100)
  (hlen:l.length+(qI ss ss.length).length<=140737488355328) :
  Calls Tryz.prog 28 #[.pointer (some ⟨b,0,none⟩),.slice (some ⟨r,0,none⟩) ss.length ss.length] w fun e w'=>e=.returned (.tuple #[])/\qf B b (l++qI ss ss.length) w'/\Went B b w w':=by
 have HH:=zd h;have HR:=zd hr;have hrw:=kK hr;clear h hr;go_enter Tryz.func28,Tryz.ntmps28;go_wp2_with fail
 go_loopw [8] (fun i wr=>∃k:Nat,k<=ss.length/\i=.int .i64 k/\qf B b (l++qI ss k) wr/\Went B b w wr) (fun i _=>ss.length - (intOf i).toNat)
 case atStart=>exact⟨0,Nat.zero_le _,rfl,by simpa [qI] using HH.out,Went.refl _ _ _⟩
 case round=>
  obtain⟨k,hk,rfl,hwr,hwe⟩:=hrel;have HW:=zd hwr;have HE:=zd hwe;clear hwr hwe
  by_cases hlt:k<ss.length
  ·have c0:wr.cell? ⟨r,k,none⟩=some (.string ss[k]):=by
    rw[HE.out.cell HR.out hrb (by decide)];simp[hlt]
   have HJ:Hid (qI ss (k+1)=qI ss k++ss[k].data.toList):=by show _=_; rw[qI,List.getElem?_eq_getElem hlt]; rfl
   have HL:=zd (KP ss (k+1) ss.length hlt);generalize ss[k]=sk at *;go_wp2_with fail;refine (Jw B b _ sk wr HW.out ?_ ?_).mono ?_
   ·have h1:=HL.out
    rw[HJ.out] at h1;have h2:sk.data.toList.length=sk.size:=rfl;rw[Lib.byteCells_length,List.length_append];rw[List.length_append] at h1;omega
   ·have:=ye HW.out
    omega
   rintro e w' ⟨rfl,hb',hl',hk'⟩;rw[J8,List.append_assoc,<- HJ.out] at hb';have HW':Hid (qf B b (l++qI ss (k+1)) w'):=hb';have HE':Hid (Went B b w w'):=HE.out.trans ⟨hl',hk'⟩;clear hb' hl' hk';go_wp2_with fail;exact⟨⟨k+1,by omega,by go_num,HW'.out,HE'.out⟩,by simp[intOf]; omega⟩
  ·have hkl:k=ss.length:=by omega
   subst hkl;go_wp2_with fail;go_end0;exact⟨rfl,HW.out,HE.out⟩
theorem zM (B b:Nat) (l:List UInt8) (ss:List ByteArray) (w:World) (vs:Array Value) (n r:Nat) (hr:r=w.heap.size) (hvs:vs=(ss.map Value.string).toArray) (hn0:n=ss.length) (out:List UInt8) (h:qf B b l w) (hn:ss.length<100) (hout:qI ss ss.length=out)
  (hlen:l.length+out.length<=140737488355328) :
  Calls Tryz.prog 28 #[.pointer (some ⟨b,0,none⟩),.slice (some ⟨r,0,none⟩) n n] (w.alloc (.cells vs 9)) fun e w'=>e=.returned (.tuple #[])/\qf B b (l++out) w'/\Went B b w w':=by
 subst hvs hn0 hout hr;have hlt:=ye h;refine (zeD B b w.heap.size l ss _ (h.below ((Below.refl _ _).alloc (Nat.le_refl _) _)) (heap_alloc_new w _) (by omega) hn hlen).mono ?_;rintro e w' ⟨rfl,h1,h2⟩;exact⟨rfl,h1,(Went.of_below ((Below.refl _ _).alloc (Nat.le_refl _) _) (by omega)).trans h2⟩
theorem YK (B b k:Nat) (l:List UInt8) (w:World) (h:qf B b l w) (hlen:k≠0->l.length+2<=140737488355328) :
  Calls Tryz.prog 83 #[.pointer (some ⟨b,0,none⟩),.int .i64 k] w fun e w'=>e=.returned (.tuple #[])/\qf B b (l++if k=0 then [] else [44,32]) w'/\Went B b w w':=by
 have HH:=zd h;clear h
 by_cases hk:k=0
 ·have hk':¬(0:Int)<(k:Int):=by omega
  rw[if_pos hk,List.append_nil];clear hk;go_enter Tryz.func83,Tryz.ntmps83;go_wp2_with fail;go_end0;exact⟨rfl,HH.out,Went.refl _ _ _⟩
 ·have hk':(0:Int)<(k:Int):=by omega
  have hlen:=hlen hk;rw[if_neg hk];clear hk;go_enter Tryz.func83,Tryz.ntmps83;go_wp2_with fail;refine (zM B b l [⟨#[44,32]⟩] w _ _ _ (by simp) rfl rfl [44,32] HH.out (by decide) rfl hlen).mono ?_;rintro e w' ⟨rfl,h1,h2⟩;go_wp2_with fail;go_end0;exact⟨rfl,h1,h2⟩
theorem za7 (B b:Nat) (o n:ByteArray) (l:List UInt8) (w:World) (h:qf B b l w) (hlen:l.length+(vN o n).length<=140737488355328) :
  Calls Tryz.prog 82 #[.pointer (some ⟨b,0,none⟩),.string o,.string n] w fun e w'=>e=.returned (.tuple #[])/\qf B b (l++vN o n) w'/\Went B b w w':=by
 have HH:=zd h;clear h;have HT:=zd (vz o [])
 cases ho:(o.toList==[])
 ·have hs:vN o n=o.data.toList++([46]++n.data.toList):=if_neg (by rw[qv,<- HT.out,ho]; simp)
  rw[hs] at hlen ⊢;simp only[List.length_append,List.length_cons,List.length_nil] at hlen;clear hs HT;go_enter Tryz.func82,Tryz.ntmps82;go_wp2_with fail;refine (zM B b l [o,⟨#[46]⟩] w _ _ _ (by simp) rfl rfl (o.data.toList++[46]) HH.out (by simp) (by simp[qI]) (by simp only[List.length_append,List.length_cons,List.length_nil]; omega)).mono ?_;rintro e w1 ⟨rfl,h1,h2⟩;have HW1:=zd h1;have HE1:=zd h2;clear h1 h2;go_wp2_with fail;refine (zM B b _ [n] w1 _ _ _ (by simp) rfl rfl n.data.toList HW1.out (by simp) (by simp[qI]) (by simp only[List.length_append,List.length_cons,List.length_nil]; omega)).mono ?_;rintro e w2 ⟨rfl,h1,h2⟩;go_wp2_with fail;go_end0;exact⟨rfl,by simpa [List.append_assoc] using h1,HE1.out.trans h2⟩
 ·have hs:vN o n=n.data.toList:=if_pos (by rw[qv,<- HT.out,ho])
  rw[hs] at hlen ⊢;clear hs HT;go_enter Tryz.func82,Tryz.ntmps82;go_wp2_with fail;refine (zM B b l [n] w _ _ _ (by simp) rfl rfl n.data.toList HH.out (by simp) (by simp[qI]) hlen).mono ?_;rintro e w2 ⟨rfl,h1,h2⟩;go_wp2_with fail;go_end0;exact⟨rfl,h1,h2⟩
theorem XF:∀(m d:Nat),10<d+m->∀(S:Nat->Prop) (B b:Nat) (t:Ty) (v:Value) (l:List UInt8) (w:World),(∀c,S c->c<B)->vi S w t v->zl t d=0->qf B b l w->l.length+(yr t).length<=140737488355328->
  Calls Tryz.prog 29 #[.pointer (some ⟨b,0,none⟩),v] w fun e w'=>e=.returned (.tuple #[])/\qf B b (l++yr t) w'/\Went B b w w':=by
 intro m
 induction m with
 |zero=>
  rintro d hd S B b ⟨k,o,n,xs⟩ v l w hS hv hf;have:=(zaM hf).1;omega
 |succ m ih=>
  rintro d hd S B b t v l w hS ⟨k,o,n,va,rfl,xs,rfl,hos,hns,hsl⟩ hf hw hlen;have HIH:=zd ih;clear ih;obtain⟨hd10,hk,hfit,hxs⟩:=zaM hf;have hlt:=ye hw;obtain⟨a,cap,rfl,⟨hl,hlC⟩,hrest⟩:=hsl;have HB:Hid (Went B b w (w.alloc (.cells #[.int .i64 k,.string o,.string n,.slice a xs.length cap] 67))):=Went.of_below ((Below.refl _ _).alloc (Nat.le_refl _) _) (by omega);have HW:Hid (qf B b l (w.alloc (.cells #[.int .i64 k,.string o,.string n,.slice a xs.length cap] 67))):=hw.below ((Below.refl _ _).alloc (Nat.le_refl _) _);have HS:Hid (yr (.mk k o n xs)=if k=1 then [105,110,116] else if k=2 then [116,101,120,116] else if k=3 then [91]++(XE xs++[93]) else vN o n):=by show _=_; rw[yr]
  have HNew:=zd (heap_alloc_new w (.cells #[.int .i64 k,.string o,.string n,.slice a xs.length cap] 67));have hwb:w.heap.size≠b:=by omega
  clear hw hf
  by_cases h1:k=1
  ·subst h1
   rw[if_pos rfl] at HS;rw[HS.out] at hlen ⊢;clear HS hrest HIH hxs hfit hk;go_enter Tryz.func29,Tryz.ntmps29;go_wp2_with fail;refine (zM B b l [⟨#[105,110,116]⟩] _ _ _ _ (by simp) rfl rfl [105,110,116] HW.out (by decide) rfl hlen).mono ?_;rintro e w1 ⟨rfl,q1,q2⟩;go_wp2_with fail;go_end0;exact⟨rfl,q1,HB.out.trans q2⟩
  rw[if_neg h1] at HS;have h1':(k==1)=false:=beq_eq_false_iff_ne.2 h1
  by_cases h2:k=2
  ·subst h2
   rw[if_pos rfl] at HS;rw[HS.out] at hlen ⊢;clear HS hrest HIH hxs hfit hk;go_enter Tryz.func29,Tryz.ntmps29;go_wp2_with fail;refine (zM B b l [⟨#[116,101,120,116]⟩] _ _ _ _ (by simp) rfl rfl [116,101,120,116] HW.out (by decide) rfl hlen).mono ?_;rintro e w1 ⟨rfl,q1,q2⟩;go_wp2_with fail;go_end0;exact⟨rfl,q1,HB.out.trans q2⟩
  rw[if_neg h2] at HS;have h2':(k==2)=false:=beq_eq_false_iff_ne.2 h2
  by_cases h3:k=3
  ·subst h3
   rw[if_pos rfl] at HS;have hc:xs.length=1:=by
    have hfit':(xs.length==1&&(qv n&&qv o))=true:=hfit;simp only[Bool.and_eq_true,beq_iff_eq] at hfit';exact hfit'.1
   match xs,hc with
   |[t],_=>
    rcases hrest with h0|⟨bb,off,rfl,hb,hrow⟩
    ·simp at h0
    have hbw:=hS bb hb;have hty:=hrow.get 0 (by simp);simp only[Nat.zero_mul,Nat.add_zero,List.getElem_cons_zero] at hty;obtain⟨kd,fo,na,va,c0,c1,c2,c3,hcs⟩:=qL.1 hty;obtain⟨va1,va2,va3,rfl⟩:=hcs.slice;have ht0:zl t (d+1)=0:=zeB hxs 0 (by simp);have HC:=zd hcs;have hh:XE [t]=yr t:=by rw[XE]
    rw[HS.out,hh] at hlen ⊢;simp only[List.length_append,List.length_cons,List.length_nil] at hlen;clear HS hxs hfit hk hrow hty hcs hh;simp only[List.length_cons,List.length_nil,Nat.zero_add] at *;go_enter Tryz.func29,Tryz.ntmps29;go_wp2_with fail;refine (zM B b l [⟨#[91]⟩] _ _ _ _ (by simp) rfl rfl [91] HW.out (by decide) rfl (by simp only[List.length_cons,List.length_nil]; omega)).mono ?_;rintro e w1 ⟨rfl,q1,q2⟩;have HW1:=zd q1;have HB1:=zd (HB.out.trans q2);have e3:w1.cell? ⟨w.heap.size,3,none⟩=some (.slice (some ⟨bb,off,none⟩) 1 cap):=q2.cell HNew.out hwb (by decide) 3;have d0:=(HB1.out.below.cell (p:=⟨bb,off,none⟩) hbw).trans c0;have d1:=(HB1.out.below.cell (p:=⟨bb,off+1,none⟩) hbw).trans c1;have d2:=(HB1.out.below.cell (p:=⟨bb,off+2,none⟩) hbw).trans c2;have d3:=(HB1.out.below.cell (p:=⟨bb,off+3,none⟩) hbw).trans c3;clear q1 q2 c0 c1 c2 c3;go_wp2_with fail;refine (HIH.out (d+1) (by omega) S B b t _ _ w1 hS ⟨_,_,_,_,rfl,HC.out.keep (Keeps.below HB1.out.below hS)⟩ ht0 HW1.out (by simp only[List.length_append,List.length_cons,List.length_nil]; omega)).mono ?_;rintro e w2 ⟨rfl,q1,q2⟩;have HW2:=zd q1;have HB2:=zd (HB1.out.trans q2);clear q1 q2 d0 d1 d2 d3 e3;go_wp2_with fail;refine (zM B b _ [⟨#[93]⟩] w2 _ _ _ (by simp) rfl rfl [93] HW2.out (by decide) rfl (by simp only[List.length_append,List.length_cons,List.length_nil]; omega)).mono ?_;rintro e w3 ⟨rfl,q1,q2⟩;go_wp2_with fail;go_end0;exact⟨rfl,by simpa [List.append_assoc] using q1,HB2.out.trans q2⟩
  rw[if_neg h3] at HS;have h3':(k==3)=false:=beq_eq_false_iff_ne.2 h3;have h4:k=4:=by simp[qj] at hk; omega
  subst h4;rw[HS.out] at hlen ⊢;clear HS hrest HIH hxs hfit hk h1 h2 h3;go_enter Tryz.func29,Tryz.ntmps29;go_wp2_with fail;refine (za7 B b o n l _ HW.out hlen).mono ?_;rintro e w1 ⟨rfl,q1,q2⟩;go_wp2_with fail;go_end0;exact⟨rfl,q1,HB.out.trans q2⟩
theorem cellsByte:Tryz.prog.cellsOf 5=1:=by kernel_rfl
theorem zdt (B b g cap:Nat) (p:Value) (l:List UInt8) (cur:Array Value) (w:World) (h0:l≠[]) (hbk:w.heap[b]? = some (.cells #[p,.slice (some ⟨g,0,none⟩) l.length cap] 83 (0,0))) (hbg:B<=g)
  (hg:w.heap[g]? = some (.cells cur 5 (0,0))) (hnc:l.length<=cap) (hcm:cap<=maxLen) (hcs:cur.size=cap * 1) (hown:w.ownsRow B 5 1 (.slice (some ⟨g,0,none⟩) l.length cap) l.length (Lib.byteCells l)) :
  Calls Tryz.prog 31 #[.pointer (some ⟨b,0,none⟩)] w fun e w'=>e=.returned (.string (kL l))/\Below B w w':=by
 have hl0:l.length≠0:=by simpa using h0
 have c1:w.drew.cell? ⟨b,1,none⟩=some (.slice (some ⟨g,0,none⟩) l.length cap):=by
  have:w.drew.heap[b]? = some (.cells #[p,.slice (some ⟨g,0,none⟩) l.length cap] 83 (0,0)):=hbk;rw[Lib.cell_of_heap this]; rfl
 have hSD:(Builtin.unsafeSliceData_ #[79] 149 #[.slice (some ⟨g,0,none⟩) l.length cap]).run Tryz.prog w.drew=.ok (.pointer (some ⟨g,0,none⟩)) w.drew:=
  Lib.run_unsafeSliceData_row _ _ _ _ _ _ (by omega)
 have hUS:(Builtin.unsafeString_ #[149,3] 9 #[.pointer (some ⟨g,0,none⟩),.int .i64 l.length]).run Tryz.prog w.drew=.ok (.string ⟨l.toArray⟩) (w.drew.freeze ⟨g,0,none⟩ l.length):=by
  refine Lib.run_unsafeString_row w.drew 149 3 9 5 Tryz.underlying149 cellsByte g cur.size (by have hg':w.drew.heap[g]? = some (.cells cur 5 (0,0)):=hg; simp[World.shape?,hg']) l h0 (by omega) (by unfold maxLen at hcm; omega) ?_;intro j x hx;exact hown.cells (g:=g) rfl j (.int .u8 x.toNat) (by simp[Lib.byteCells,hx])
 clear hown hcs hnc hl0;go_enter Tryz.func31,Tryz.ntmps31;go_wp2_with fail
 go_region
 all_goals (go_wp2_with fail; go_ret; exact⟨rfl,Lib.below_freeze (Below.drew (Below.refl B w)) (p:=⟨g,0,none⟩) hbg _⟩)
theorem zdu (B b:Nat) (p:Value) (w:World) (hbk:w.heap[b]? = some (.cells #[p,.slice none 0 0] 83 (0,0))) :
  Calls Tryz.prog 31 #[.pointer (some ⟨b,0,none⟩)] w fun e w'=>e=.returned (.string (kL []))/\Below B w w':=by
 have hUS:∀(W:World) (q:Option Addr),(Builtin.unsafeString_ #[149,3] 9 #[.pointer q,.int .i64 0]).run Tryz.prog W=.ok (.string .empty) W:=fun W q=>Lib.run_unsafeString_none W _ _ _ q
 have c1:w.drew.cell? ⟨b,1,none⟩=some (.slice none 0 0):=by
  have:w.drew.heap[b]? = some (.cells #[p,.slice none 0 0] 83 (0,0)):=hbk;rw[Lib.cell_of_heap this]; rfl
 have hSD:(Builtin.unsafeSliceData_ #[79] 149 #[.slice none 0 0]).run Tryz.prog w.drew=.ok (.pointer none) w.drew:=rfl;go_enter Tryz.func31,Tryz.ntmps31;go_wp2_with fail
 go_region
 all_goals (go_wp2_with fail; go_ret; exact⟨rfl,Below.drew (Below.refl B w)⟩)
theorem zb6 (B b g cap:Nat) (p:Value) (w:World) (hc0:cap≠0) (hbk:w.heap[b]? = some (.cells #[p,.slice (some ⟨g,0,none⟩) 0 cap] 83 (0,0))) :
  Calls Tryz.prog 31 #[.pointer (some ⟨b,0,none⟩)] w fun e w'=>e=.returned (.string (kL []))/\Below B w w':=by
 have hUS:∀(W:World) (q:Option Addr),(Builtin.unsafeString_ #[149,3] 9 #[.pointer q,.int .i64 0]).run Tryz.prog W=.ok (.string .empty) W:=fun W q=>Lib.run_unsafeString_none W _ _ _ q
 have c1:w.drew.cell? ⟨b,1,none⟩=some (.slice (some ⟨g,0,none⟩) 0 cap):=by
  have:w.drew.heap[b]? = some (.cells #[p,.slice (some ⟨g,0,none⟩) 0 cap] 83 (0,0)):=hbk;rw[Lib.cell_of_heap this]; rfl
 have hSD:(Builtin.unsafeSliceData_ #[79] 149 #[.slice (some ⟨g,0,none⟩) 0 cap]).run Tryz.prog w.drew=.ok (.pointer (some ⟨g,0,none⟩)) w.drew:=
  Lib.run_unsafeSliceData_row _ _ _ _ _ _ hc0
 clear hc0;go_enter Tryz.func31,Tryz.ntmps31;go_wp2_with fail
 go_region
 all_goals (go_wp2_with fail; go_ret; exact⟨rfl,Below.drew (Below.refl B w)⟩)
theorem zaC (B b g:Nat) (p:Value) (cur:Array Value) (w:World) (hBw:B<=w.heap.size) (hbk:w.heap[b]? = some (.cells #[p,.slice (some ⟨g,0,none⟩) 0 0] 83 (0,0))) (hg:w.heap[g]? = some (.cells cur 5 (0,0))) :
  Calls Tryz.prog 31 #[.pointer (some ⟨b,0,none⟩)] w fun e w'=>e=.returned (.string (kL []))/\Below B w w':=by
 have hUS:∀(W:World) (q:Option Addr),(Builtin.unsafeString_ #[149,3] 9 #[.pointer q,.int .i64 0]).run Tryz.prog W=.ok (.string .empty) W:=fun W q=>Lib.run_unsafeString_none W _ _ _ q
 have hlt:b<w.heap.size:=kK hbk;have c1:w.drew.cell? ⟨b,1,none⟩=some (.slice (some ⟨g,0,none⟩) 0 0):=by
  have:w.drew.heap[b]? = some (.cells #[p,.slice (some ⟨g,0,none⟩) 0 0] 83 (0,0)):=hbk;rw[Lib.cell_of_heap this]; rfl
 have hSD:(Builtin.unsafeSliceData_ #[79] 149 #[.slice (some ⟨g,0,none⟩) 0 0]).run Tryz.prog w.drew=.ok (.pointer (some ⟨w.drew.heap.size,0,none⟩)) (w.drew.alloc (.view ⟨g,0,none⟩ 5)):=
  Lib.run_unsafeSliceData_zero w.drew _ _ 5 Tryz.underlying149 ⟨g,0,none⟩ 0 (5,cur.size) (by have hg':w.drew.heap[g]? = some (.cells cur 5 (0,0)):=hg; simp[World.shape?,hg'])
 have c2:(w.drew.alloc (.view ⟨g,0,none⟩ 5)).cell? ⟨b,1,none⟩=some (.slice (some ⟨g,0,none⟩) 0 0):=by
  have:(w.drew.alloc (.view ⟨g,0,none⟩ 5)).heap[b]? = _:=(Lib.alloc_old w.drew _ b hlt).trans hbk;rw[Lib.cell_of_heap this]; rfl
 have c3:(w.alloc (.view ⟨g,0,none⟩ 5)).drew.cell? ⟨b,1,none⟩=some (.slice (some ⟨g,0,none⟩) 0 0):=c2;have c0:w.cell? ⟨b,1,none⟩=some (.slice (some ⟨g,0,none⟩) 0 0):=c1;go_enter Tryz.func31,Tryz.ntmps31;go_wp2_with fail
 go_region
 all_goals (go_wp2_with fail; go_ret; exact⟨rfl,(Below.drew (Below.refl B w)).alloc hBw _⟩)
theorem zdv (B b:Nat) (l:List UInt8) (w:World) (h:qf B b l w):Calls Tryz.prog 31 #[.pointer (some ⟨b,0,none⟩)] w fun e w'=>e=.returned (.string (kL l))/\Below B w w':=by
 have hlt:=ye h;obtain⟨p,hB,v,hbk,hown,hne⟩:∃p,Lib.BuilderAt 83 5 B b p (Lib.byteCells l) w:=by
  rcases h with h|h
  ·exact⟨_,h⟩
  ·exact⟨_,h⟩
 rw[Lib.byteCells_length] at hown
 by_cases h0:l=[]
 ·subst h0
  rcases hown.2 with ⟨rfl,_⟩|⟨g,cap,cur,rfl,hbg,hg,_,_,_,_⟩
  ·exact zdu B b p w hbk
  ·by_cases hc0:cap=0
   ·subst hc0
    exact zaC B b g p cur w (by omega) hbk hg
   ·exact zb6 B b g cap p w hc0 hbk
 ·rcases hown.2 with ⟨_,hz⟩|⟨g,cap,cur,rfl,hbg,hg,hnc,hcm,hcs,_⟩
  ·exact absurd (by simpa using hz) h0
  ·exact zdt B b g cap p l cur w h0 hbk hbg hg hnc hcm hcs hown
def Zr (B:Nat) (w:World):Prop:=∃g,Tryz.prog.globalNamed "internal/strconv.uint64pow10" = some g/\g<B/\Lib.TabIs Tryz.prog w "internal/strconv.uint64pow10" .u64 Lib.pow10Tab
theorem Zr.keep {B:Nat} {w w':World} (h:Zr B w) (hb:Below B w w'):Zr B w':=by
 obtain⟨g,hg,hgB,ht⟩:=h;refine⟨g,hg,hgB,?_⟩;unfold Lib.TabIs World.var? at ht ⊢;rw[hg] at ht ⊢;simp only[Option.bind_some] at ht ⊢;rw[hb.block g hgB];exact ht
theorem zdw (w:World) (k:Nat) (os:Array Obj):Below w.heap.size w (Go.Sort.grow (w.drewN k) os):=by
 refine⟨rfl,rfl,rfl,?_,fun i hi=>?_⟩
 ·show w.heap.size<=(w.heap++os).size
  simp
 ·show (w.heap++os)[i]? = w.heap[i]?
  rw[Array.getElem?_append_left hi]
theorem zgj (n:Int) (hn:qj n 0 999999=true) (B:Nat) (w:World) (ht:Zr B w):Calls Tryz.prog 139 #[.int .i64 n] w fun e w'=>e=.returned (.string (kL (kX n)))/\Below w.heap.size w w':=by
 obtain⟨_,_,_,ht⟩:=ht;have hb:0<=n/\n<=999999:=by simpa [qj] using hn
 refine (Tryz.strconv_Itoa n (by omega) (by omega) w ht).mono ?_;rintro e w' ⟨rfl,k,os,rfl⟩;refine⟨?_,zdw _ _ _⟩;rw[Lib.itoa,if_neg (by omega)]
 rfl
theorem zcL (l:List Ex):∀k j,k<=j->(jt l k).length<=(jt l j).length
 |k,0,h=>by
   have:k=0:=by omega
   subst this; exact Nat.le_refl _
 |k,j+1,h=>by
  by_cases e:k=j+1
  ·subst e; exact Nat.le_refl _
  ·have:=zcL l k j (by omega)
   simp only[jt,List.length_append]; omega
def QC (d:Nat):Prop:=∀(S:Nat->Prop) (B b:Nat) (x:Ex) (v:Value) (l:List UInt8) (w:World),(∀c,S c->c<B)->yC S w x v->zx x d=0->qf B b l w->Zr B w->l.length+(xh x).length<=140737488355328->
  Calls Tryz.prog 84 #[.pointer (some ⟨b,0,none⟩),v] w fun e w'=>e=.returned (.tuple #[])/\qf B b (l++xh x) w'/\Went B b w w'
theorem VY (d:Nat) (ih:QC d) (S:Nat->Prop) (B b:Nat) (o f:ByteArray) (xs:List Ex) (v:Value) (l:List UInt8) (w:World) (hS:∀c,S c->c<B) (hv:ze S (yB S w) 5 xs v) (hx:∀j (hj:j<xs.length),zx xs[j] d=0) (hw:qf B b l w) (ht:Zr B w)
  (hlen:l.length+(o.data.toList++(jL xs++f.data.toList)).length<=140737488355328) :
  Calls Tryz.prog 140 #[.pointer (some ⟨b,0,none⟩),.string o,v,.string f] w fun e w'=>e=.returned (.tuple #[])/\qf B b (l++(o.data.toList++(jL xs++f.data.toList))) w'/\Went B b w w':=by
 obtain⟨a,cap,rfl,⟨hl,hlC⟩,hrest⟩:=hv;unfold maxLen at hl;have HIH:=zd ih;have HR:=zd hrest;have HX:=zd hx;have HW:=zd hw;have HT:=zd ht;have HJ:=zd (za6 xs);have hlt:=ye hw;rw[<- HJ.out] at hlen ⊢;simp only[List.length_append] at hlen;clear ih hrest hx hw ht;go_enter Tryz.func140,Tryz.ntmps140;go_wp2_with fail;refine (zM B b l [o] _ _ _ _ (by simp) rfl rfl o.data.toList HW.out (by simp) (by simp[qI]) (by omega)).mono ?_;rintro e w1 ⟨rfl,q1,q2⟩;have HW1:=zd q1;have HE1:=zd q2;clear q1 q2 HW;go_wp2_with fail
 go_loopw [16] (fun i wr=>∃k:Nat,k<=xs.length/\i=.int .i64 k/\qf B b (l++o.data.toList++jt xs k) wr/\Went B b w wr) (fun i _=>xs.length - (intOf i).toNat)
 case atStart=>exact⟨0,Nat.zero_le _,rfl,by simpa [jt] using HW1.out,HE1.out⟩
 case round=>
  clear HW1 HE1;obtain⟨k,hk,rfl,hwr,hwe⟩:=hrel;have HWr:=zd hwr;have HEr:=zd hwe;have hltr:=ye hwr;clear hwr hwe
  by_cases hltk:k<xs.length
  ·rcases HR.out with h0|⟨bb,off,rfl,hb,hrow⟩
   ·omega
   have hbw:=hS bb hb;obtain⟨kd,nu,fo,na,va,c0,c1,c2,c3,c4,hcs⟩:=qU.1 (hrow.get k hltk);obtain⟨va1,va2,va3,rfl⟩:=hcs.slice;have d0:=(HEr.out.below.cell (p:=⟨bb,off+k * 5,none⟩) hbw).trans c0;have d1:=(HEr.out.below.cell (p:=⟨bb,off+k * 5+1,none⟩) hbw).trans c1;have d2:=(HEr.out.below.cell (p:=⟨bb,off+k * 5+2,none⟩) hbw).trans c2;have d3:=(HEr.out.below.cell (p:=⟨bb,off+k * 5+3,none⟩) hbw).trans c3;have d4:=(HEr.out.below.cell (p:=⟨bb,off+k * 5+4,none⟩) hbw).trans c4;have HC:=zd hcs;have HX0:=zd (HX.out k hltk);have HST:Hid (jt xs (k+1)=jt xs k++((if k=0 then [] else [44,32])++xh xs[k])):=by show _=_; rw[jt,List.getElem?_eq_getElem hltk]; rfl
   have HLE:=zd (zcL xs (k+1) xs.length hltk);have HLE':Hid ((jt xs k).length+((if k=0 then [] else [44,32]:List UInt8).length+(xh xs[k]).length)<=(jt xs xs.length).length):=by
    show _<=_;have:=HLE.out;rw[HST.out] at this;simpa only[List.length_append] using this
   have HWa:=zd (HWr.out.below ((Below.refl _ _).alloc (Nat.le_refl _) (.cells #[.int .i64 kd,.int .i64 nu,.string fo,.string na,.slice va1 va2 va3] 70)));have HEa:=zd (HEr.out.alloc (by omega) (.cells #[.int .i64 kd,.int .i64 nu,.string fo,.string na,.slice va1 va2 va3] 70));have HNew:=zd (heap_alloc_new wr (.cells #[.int .i64 kd,.int .i64 nu,.string fo,.string na,.slice va1 va2 va3] 70));have hnb:wr.heap.size≠b:=by omega
   clear c0 c1 c2 c3 c4 hcs hrow HR HX HWr HEr;go_wp2_with fail;refine (YK B b k _ _ HWa.out ?_).mono ?_
   ·intro hk0
    have h1:=HLE'.out;rw[if_neg hk0] at h1;simp only[List.length_cons,List.length_nil] at h1;simp only[List.length_append];omega
   rintro e w2 ⟨rfl,q1,q2⟩;have HW2:=zd q1;have HE2:=zd (HEa.out.trans q2);have e0:w2.cell? ⟨wr.heap.size,0,none⟩=some (.int .i64 kd):=q2.cell HNew.out hnb (by decide) 0;have e1:w2.cell? ⟨wr.heap.size,1,none⟩=some (.int .i64 nu):=q2.cell HNew.out hnb (by decide) 1;have e2:w2.cell? ⟨wr.heap.size,2,none⟩=some (.string fo):=q2.cell HNew.out hnb (by decide) 2;have e3:w2.cell? ⟨wr.heap.size,3,none⟩=some (.string na):=q2.cell HNew.out hnb (by decide) 3;have e4:w2.cell? ⟨wr.heap.size,4,none⟩=some (.slice va1 va2 va3):=q2.cell HNew.out hnb (by decide) 4;clear q1 q2 HWa HEa HNew d0 d1 d2 d3 d4;go_wp2_with fail;refine (HIH.out S B b xs[k] _ _ w2 hS ⟨_,_,_,_,_,rfl,HC.out.keep (Keeps.below HE2.out.below hS)⟩ HX0.out HW2.out (HT.out.keep HE2.out.below) ?_).mono ?_
   ·have h1:=HLE'.out
    simp only[List.length_append];omega
   rintro e w3 ⟨rfl,q1,q2⟩;have HW3:Hid (qf B b (l++o.data.toList++jt xs (k+1)) w3):=by
    show qf _ _ _ _;rw[HST.out];simpa only[List.append_assoc] using q1
   have HE3:=zd (HE2.out.trans q2);clear q1 q2 HW2 HE2 e0 e1 e2 e3 e4;go_wp2_with fail;exact⟨⟨k+1,by omega,by go_num,HW3.out,HE3.out⟩,by simp[intOf]; omega⟩
  ·have hkl:k=xs.length:=by omega
   subst hkl;clear HR HX HIH;go_wp2_with fail;refine (zM B b _ [f] wr _ _ _ (by simp) rfl rfl f.data.toList HWr.out (by simp) (by simp[qI]) (by simp only[List.length_append]; omega)).mono ?_;rintro e w3 ⟨rfl,q1,q2⟩;go_wp2_with fail;go_end0;exact⟨rfl,by simpa only[List.append_assoc] using q1,HEr.out.trans q2⟩
theorem ze.tail {S:Nat->Prop} {w:World} {x:Ex} {r:List Ex} {bb off n cap:Nat} (h:qA (yB S w) 5 (x::r) bb off) (hb:S bb) (hl:r.length<=maxLen) (hc:r.length<=cap) (hn:n=r.length):ze S (yB S w) 5 r (.slice (some ⟨bb,off+5,none⟩) n cap):=
 ⟨_,cap,by rw[hn],⟨hl,hc⟩,Or.inr ⟨bb,off+5,rfl,hb,h.2⟩⟩
theorem qy {B b:Nat} {w w':World} (h:Went B b w w') {c:Nat} (hc:c<B) (o:Nat):w'.cell? ⟨c,o,none⟩=w.cell? ⟨c,o,none⟩:=h.below.cell (p:=⟨c,o,none⟩) hc
theorem zeE (d:Nat) (ih:QC (d+1)):QC d:=by
  rintro S B b t v l w hS ⟨k,n,o,s,va,rfl,xs,rfl,hos,hss,hsl⟩ hf hw ht hlen;have HIH:=zd ih;clear ih;obtain⟨hd10,hk,h8,hk1,hnf,hcf,hr,hxs⟩:=zaN hf;have hlt:=ye hw;obtain⟨a,cap,rfl,⟨hl,hlC⟩,hrest⟩:=hsl;have HB:Hid (Went B b w (w.alloc (.cells #[.int .i64 k,.int .i64 n,.string o,.string s,.slice a xs.length cap] 70))):=Went.of_below ((Below.refl _ _).alloc (Nat.le_refl _) _) (by omega);have HW:Hid (qf B b l (w.alloc (.cells #[.int .i64 k,.int .i64 n,.string o,.string s,.slice a xs.length cap] 70))):=hw.below ((Below.refl _ _).alloc (Nat.le_refl _) _);have HT:=zd ht;have HS:Hid (xh (.mk k n o s xs)=if k=1 then kX n
   else if k=2 then [34]++(s.data.toList++[34])
   else if k=3 then s.data.toList
   else if k=4 then vN o s++([40]++(jL xs++[41]))
   else if k=5 then [40]++(jW xs++([32,43,32]++(Zq xs++[41])))
   else if k=6 then [91]++(jL xs++[93])
   else jW xs++([91]++(Zq xs++[93]))):=by show _=_; rw[xh]
  have HNew:=zd (heap_alloc_new w (.cells #[.int .i64 k,.int .i64 n,.string o,.string s,.slice a xs.length cap] 70));have hwb:w.heap.size≠b:=by omega
  clear hw hf ht
  by_cases h1:k=1
  ·subst h1
   rw[if_pos rfl] at HS;rw[HS.out] at hlen ⊢;clear HS hrest HIH hxs hk;go_enter Tryz.func84,Tryz.ntmps84;go_wp2_with fail;refine (zgj n hr B _ (HT.out.keep HB.out.below)).mono ?_;rintro e w1 ⟨rfl,q1⟩;have HW1:=zd (HW.out.below q1);have HB1:=zd (HB.out.trans (Went.of_below (b:=b) q1 (by simp; omega)));clear q1;go_wp2_with fail;refine (zM B b l [kL (kX n)] w1 _ _ _ (by simp) rfl rfl (kX n) HW1.out (by simp) (by simp[qI,kL]) hlen).mono ?_;rintro e w2 ⟨rfl,q1,q2⟩;go_wp2_with fail;go_end0;exact⟨rfl,q1,HB1.out.trans q2⟩
  rw[if_neg h1] at HS;have h1':(k==1)=false:=beq_eq_false_iff_ne.2 h1
  by_cases h2:k=2
  ·subst h2
   rw[if_pos rfl] at HS;rw[HS.out] at hlen ⊢;clear HS hrest HIH hxs hk HNew;go_enter Tryz.func84,Tryz.ntmps84;go_wp2_with fail;refine (zM B b l [⟨#[34]⟩,s,⟨#[34]⟩] _ _ _ _ (by simp) rfl rfl ([34]++(s.data.toList++[34])) HW.out (by simp) (by simp[qI]) hlen).mono ?_;rintro e w1 ⟨rfl,q1,q2⟩;go_wp2_with fail;go_end0;exact⟨rfl,q1,HB.out.trans q2⟩
  rw[if_neg h2] at HS;have h2':(k==2)=false:=beq_eq_false_iff_ne.2 h2
  by_cases h3:k=3
  ·subst h3
   rw[if_pos rfl] at HS;rw[HS.out] at hlen ⊢;clear HS hrest HIH hxs hk HNew;go_enter Tryz.func84,Tryz.ntmps84;go_wp2_with fail;refine (zM B b l [s] _ _ _ _ (by simp) rfl rfl (s.data.toList) HW.out (by simp) (by simp[qI]) hlen).mono ?_;rintro e w1 ⟨rfl,q1,q2⟩;go_wp2_with fail;go_end0;exact⟨rfl,q1,HB.out.trans q2⟩
  rw[if_neg h3] at HS;have h3':(k==3)=false:=beq_eq_false_iff_ne.2 h3
  by_cases h4:k=4
  ·subst h4
   rw[if_pos rfl] at HS;rw[HS.out] at hlen ⊢;have HV:Hid (ze S (yB S w) 5 xs (.slice a xs.length cap)):=⟨a,cap,rfl,⟨hl,hlC⟩,hrest⟩
   have HX:=zd (QV hxs);simp only[List.length_append,List.length_cons,List.length_nil] at hlen;clear HS hrest hxs hk;go_enter Tryz.func84,Tryz.ntmps84;go_wp2_with fail;refine (za7 B b o s l _ HW.out (by omega)).mono ?_;rintro e w1 ⟨rfl,q1,q2⟩;have HW1:=zd q1;have HB1:=zd (HB.out.trans q2);have e4:w1.cell? ⟨w.heap.size,4,none⟩=some (.slice a xs.length cap):=q2.cell HNew.out hwb (by decide) 4;clear q1 q2;go_wp2_with fail;refine (VY (d+1) HIH.out S B b ⟨#[40]⟩ ⟨#[41]⟩ xs _ _ w1 hS (jA (Keeps.below HB1.out.below hS) HV.out) HX.out HW1.out (HT.out.keep HB1.out.below) (by simp only[List.length_append,List.length_cons,List.length_nil]; omega)).mono ?_;rintro e w2 ⟨rfl,q1,q2⟩;go_wp2_with fail;go_end0;exact⟨rfl,by simpa [List.append_assoc] using q1,HB1.out.trans q2⟩
  rw[if_neg h4] at HS;have h4':(k==4)=false:=beq_eq_false_iff_ne.2 h4
  by_cases h5:k=5
  ·subst h5
   rw[if_pos rfl] at HS;have hc:xs.length=2:=by
    have hcf':(xs.length==2)=true:=hcf;simpa using hcf'
   match xs,hc with
   |[x0,x1],_=>
    rcases hrest with h0|⟨bb,off,rfl,hb,hrow⟩
    ·simp at h0
    have hbw:=hS bb hb;have hx0:=hrow.get 0 (by simp);have hx1:=hrow.get 1 (by simp);simp only[Nat.zero_mul,Nat.one_mul,Nat.add_zero,List.getElem_cons_zero,List.getElem_cons_succ] at hx0 hx1;have f0:zx x0 (d+1)=0:=QV hxs 0 (by simp);have f1:zx x1 (d+1)=0:=QV hxs 1 (by simp);have hh0:jW [x0,x1]=xh x0:=by rw[jW]
    have hh1:Zq [x0,x1]=xh x1:=by rw[Zq,jW]
    rw[HS.out,hh0,hh1] at hlen ⊢;simp only[List.length_append,List.length_cons,List.length_nil] at hlen;obtain⟨kd,nu,fo,na,va,c0,c1,c2,c3,c4,hcs⟩:=qU.1 hx0;obtain⟨va1,va2,va3,rfl⟩:=hcs.slice;have HC:=zd hcs;obtain⟨ke,ne,fe,se,ve,g0,g1,g2,g3,g4,hce⟩:=qU.1 hx1;obtain⟨ve1,ve2,ve3,rfl⟩:=hce.slice;have HE:=zd hce;clear HS hxs hk hrow hx0 hx1 hcs hce hh0 hh1;simp only[List.length_cons,List.length_nil,Nat.zero_add,Nat.reduceAdd] at *;go_enter Tryz.func84,Tryz.ntmps84;go_wp2_with fail;refine (zM B b l [⟨#[40]⟩] _ _ _ _ (by simp) rfl rfl [40] HW.out (by decide) rfl (by simp only[List.length_cons,List.length_nil]; omega)).mono ?_;rintro e w1 ⟨rfl,q1,q2⟩;have HW1:=zd q1;have HB1:=zd (HB.out.trans q2);have e4:w1.cell? ⟨w.heap.size,4,none⟩=some (.slice (some ⟨bb,off,none⟩) 2 cap):=q2.cell HNew.out hwb (by decide) 4;have d0:=(qy HB1.out hbw off).trans c0;have d1:=(qy HB1.out hbw (off+1)).trans c1;have d2:=(qy HB1.out hbw (off+2)).trans c2;have d3:=(qy HB1.out hbw (off+3)).trans c3;have d4:=(qy HB1.out hbw (off+4)).trans c4;have HQ:=zd (fun (W:World) (h:Went B b w1 W)=>(q2.trans h).cell HNew.out hwb (by decide) 4);clear q1 q2 c0 c1 c2 c3 c4;go_wp2_with fail;refine (HIH.out S B b x0 _ _ w1 hS ⟨_,_,_,_,_,rfl,HC.out.keep (Keeps.below HB1.out.below hS)⟩ f0 HW1.out (HT.out.keep HB1.out.below) (by simp only[List.length_append,List.length_cons,List.length_nil]; omega)).mono ?_;rintro e w2 ⟨rfl,q1,q2⟩;have HW2:=zd q1;have HB2:=zd (HB1.out.trans q2);have HQ2:=zd q2;clear q1 q2 d0 d1 d2 d3 d4 e4;go_wp2_with fail;refine (zM B b _ [⟨#[32,43,32]⟩] w2 _ _ _ (by simp) rfl rfl [32,43,32] HW2.out (by decide) rfl (by simp only[List.length_append,List.length_cons,List.length_nil]; omega)).mono ?_;rintro e w3 ⟨rfl,q1,q2⟩;have HW3:=zd q1;have HB3:=zd (HB2.out.trans q2);have e4:w3.cell? ⟨w.heap.size,4,none⟩=some (.slice (some ⟨bb,off,none⟩) 2 cap):=HQ.out w3 (HQ2.out.trans q2);have d0:=(qy HB3.out hbw (off+5)).trans g0;have d1:=(qy HB3.out hbw (off+5+1)).trans g1;have d2:=(qy HB3.out hbw (off+5+2)).trans g2;have d3:=(qy HB3.out hbw (off+5+3)).trans g3;have d4:=(qy HB3.out hbw (off+5+4)).trans g4;clear q1 q2 g0 g1 g2 g3 g4 HQ HQ2;go_wp2_with fail;refine (HIH.out S B b x1 _ _ w3 hS ⟨_,_,_,_,_,rfl,HE.out.keep (Keeps.below HB3.out.below hS)⟩ f1 HW3.out (HT.out.keep HB3.out.below) (by simp only[List.length_append,List.length_cons,List.length_nil]; omega)).mono ?_;rintro e w4 ⟨rfl,q1,q2⟩;have HW4:=zd q1;have HB4:=zd (HB3.out.trans q2);clear q1 q2 d0 d1 d2 d3 d4 e4;go_wp2_with fail;refine (zM B b _ [⟨#[41]⟩] w4 _ _ _ (by simp) rfl rfl [41] HW4.out (by decide) rfl (by simp only[List.length_append,List.length_cons,List.length_nil]; omega)).mono ?_;rintro e w5 ⟨rfl,q1,q2⟩;go_wp2_with fail;go_end0;exact⟨rfl,by simpa [List.append_assoc] using q1,HB4.out.trans q2⟩
  rw[if_neg h5] at HS;have h5':(k==5)=false:=beq_eq_false_iff_ne.2 h5
  by_cases h6:k=6
  ·subst h6
   rw[if_pos rfl] at HS;rw[HS.out] at hlen ⊢;have HV:Hid (ze S (yB S w) 5 xs (.slice a xs.length cap)):=⟨a,cap,rfl,⟨hl,hlC⟩,hrest⟩
   have HX:=zd (QV hxs);clear HS hrest hxs hk;go_enter Tryz.func84,Tryz.ntmps84;go_wp2_with fail;refine (VY (d+1) HIH.out S B b ⟨#[91]⟩ ⟨#[93]⟩ xs _ _ _ hS (jA (Keeps.below HB.out.below hS) HV.out) HX.out HW.out (HT.out.keep HB.out.below) hlen).mono ?_;rintro e w2 ⟨rfl,q1,q2⟩;go_wp2_with fail;go_end0;exact⟨rfl,q1,HB.out.trans q2⟩
  rw[if_neg h6] at HS;have h6':(k==6)=false:=beq_eq_false_iff_ne.2 h6;have h7:k=7:=by simp[qj] at hk; omega
  subst h7;have hc:xs.length=2:=by
   have hcf':(xs.length==2)=true:=hcf;simpa using hcf'
  match xs,hc with
  |[x0,x1],_=>
   rcases hrest with h0|⟨bb,off,rfl,hb,hrow⟩
   ·simp at h0
   have hbw:=hS bb hb;have hx0:=hrow.get 0 (by simp);have hx1:=hrow.get 1 (by simp);simp only[Nat.zero_mul,Nat.one_mul,Nat.add_zero,List.getElem_cons_zero,List.getElem_cons_succ] at hx0 hx1;have f0:zx x0 (d+1)=0:=QV hxs 0 (by simp);have f1:zx x1 (d+1)=0:=QV hxs 1 (by simp);have hh0:jW [x0,x1]=xh x0:=by rw[jW]
   have hh1:Zq [x0,x1]=xh x1:=by rw[Zq,jW]
   rw[HS.out,hh0,hh1] at hlen ⊢;simp only[List.length_append,List.length_cons,List.length_nil] at hlen;obtain⟨kd,nu,fo,na,va,c0,c1,c2,c3,c4,hcs⟩:=qU.1 hx0;obtain⟨va1,va2,va3,rfl⟩:=hcs.slice;have HC:=zd hcs;have hcap:2<=cap:=by simpa using hlC
   have hc1:(cap==1)=false:=beq_eq_false_iff_ne.2 (by omega);have hc2:¬cap=1:=by omega
   have HV:=zd (ze.tail (n:=1) (cap:=cap - 1) hrow hb (by simp[maxLen]) (by simp; omega) rfl);have hfx:∀j (hj:j < [x1].length),zx [x1][j] (d+1)=0:=fun j hj=>by
    have:j=0:=by simpa using hj
    subst this;exact f1
   have HFX:=zd hfx;clear hfx;have hj1:jL [x1]=xh x1:=by rw[jL,QT,List.append_nil]
   clear HS hxs hk hrow hx0 hx1 hcs hh0 hh1;simp only[List.length_cons,List.length_nil,Nat.zero_add,Nat.reduceAdd] at *;go_enter Tryz.func84,Tryz.ntmps84;have d0:=(qy HB.out hbw off).trans c0;have d1:=(qy HB.out hbw (off+1)).trans c1;have d2:=(qy HB.out hbw (off+2)).trans c2;have d3:=(qy HB.out hbw (off+3)).trans c3;have d4:=(qy HB.out hbw (off+4)).trans c4;clear c0 c1 c2 c3 c4;go_wp2_with fail;refine (HIH.out S B b x0 _ _ _ hS ⟨_,_,_,_,_,rfl,HC.out.keep (Keeps.below HB.out.below hS)⟩ f0 HW.out (HT.out.keep HB.out.below) (by omega)).mono ?_;rintro e w1 ⟨rfl,q1,q2⟩;have HW1:=zd q1;have HB1:=zd (HB.out.trans q2);have e4:w1.cell? ⟨w.heap.size,4,none⟩=some (.slice (some ⟨bb,off,none⟩) 2 cap):=q2.cell HNew.out hwb (by decide) 4;clear q1 q2 d0 d1 d2 d3 d4;go_wp2_with fail;refine (VY (d+1) HIH.out S B b ⟨#[91]⟩ ⟨#[93]⟩ [x1] _ _ w1 hS (jA (Keeps.below HB1.out.below hS) HV.out) HFX.out HW1.out (HT.out.keep HB1.out.below) (by rw[hj1]; simp only[List.length_append,List.length_cons,List.length_nil]; omega)).mono ?_;rintro e w2 ⟨rfl,q1,q2⟩;rw[hj1] at q1;go_wp2_with fail;go_end0;exact⟨rfl,by simpa [List.append_assoc] using q1,HB1.out.trans q2⟩
theorem YL:∀(m d:Nat),10<d+m->QC d:=by
 intro m
 induction m with
 |zero=>
  rintro d hd S B b ⟨k,n,o,s,xs⟩ v l w hS hv hf;have:=(zaN hf).1;omega
 |succ m ih=>
  intro d hd;exact zeE d (ih (d+1) (by omega))
end Go.Proofs.YtedpiamfpbdhoaaGreatDoor
