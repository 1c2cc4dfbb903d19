import Derived.Test.YtedpiamfpbdhoaaDoorJOr0
import Derived.Test.YtedpiamfpbdhoaaDoorProg
import Derived.OwnWalk
import Derived.Shelf.SlSortCmp.WholeK
import Derived.BigQuiet
import Derived.Deep.QuietTactic
import Derived.Maps.AppendAt
import Derived.Lib.AppendZeros
import Derived.Shelf.Spec.SlicesGrow
import Derived.Deep.RegionHeld3
import Derived.Deep.AppendLies
import Derived.Deep.MidRow
import Derived.Deep.Upon
import Derived.Shelf.SlSortCmp.NoneTotal
import Derived.Shelf.Small.Strs
import Derived.Lib.SlicesCompact
import Derived.Shelf.Small.Bits
import Derived.Shelf.Strconv.Itoa0
import Derived.Shelf.LaysM
import Derived.Shelf.Strconv.Clone
import Derived.Shelf.Sort.Plain
import Derived.Shelf.Slices.Turned
import Derived.Shelf.Slices.CompactS
import Derived.Shelf.Slices.Cells
import Derived.Shelf.Slices.In.SortNone
namespace Go.Proofs.YtedpiamfpbdhoaaDoor
open Go.RowKit
def ordN (l:List Nd):List ByteArray×List ByteArray×Int:=
 if ndsFault l=0 then (((ordAll l.length (grE l) (rdB l.length (grE l))).map (nmN l)).reverse,namL l (rdB l.length (grE l)) l.length,0) else ([],[],ndsFault l)
structure OrdAt (w w5:World) (rB n:Nat) (st:Nat→Bool) (W:World):Prop where
 row:BRow w rB n st W
 in5:rB<w5.heap.size
 low5:w.heap.size≤w5.heap.size
 size:w5.heap.size≤W.heap.size
 rest:∀b,b<w5.heap.size→b≠rB→W.heap[b]? = w5.heap[b]?
theorem OrdAt.near {w w5:World} {rB n:Nat} {st:Nat→Bool} {W W':World} (h:OrdAt w w5 rB n st W) (hb:Below w5.heap.size W W'):OrdAt w w5 rB n st W':=
 ⟨⟨h.row.below.trans (hb.mono h.low5),h.row.low,Nat.lt_of_lt_of_le h.row.top hb.size,fun i hi=>by
  obtain⟨h1,h2⟩:=h.row.arr i hi
  exact⟨(hb.cell (p:=⟨rB,i,none⟩) h.in5).trans h1,(hb.frozen (p:=⟨rB,i,none⟩) h.in5).trans h2⟩⟩,h.in5,h.low5,Nat.le_trans h.size hb.size,fun b hb5 hne=>(hb.block b hb5).trans (h.rest b hb5 hne)⟩
theorem OrdAt.put {w w5:World} {rB n:Nat} {st q:Nat→Bool} {W:World} (h:OrdAt w w5 rB n st W) {k:Nat} (hk:k<n) (hq:∀i,i<n→i≠k→q i=st i):OrdAt w w5 rB n q (W.setCell ⟨rB,k,none⟩ (.bool (q k))):=
 ⟨h.row.put hk hq,h.in5,h.low5,by simpa [World.setCell] using h.size,fun b hb5 hne=>(Below.heap_setCell _ _ _ _ (by show b≠rB; exact hne)).trans (h.rest b hb5 hne)⟩
def slLen:Value→Nat
 |.slice _ k _=>k
 |_=>0
theorem ownsTx_len {w:World} {B:Nat} {v:Value} {n:Nat} {xs:List Value} (h:w.ownsRow B 9 1 v n xs):slLen v=n:=by
 obtain⟨_,⟨hv,hn⟩|⟨g,cap,cur,hv,_⟩⟩:=h
 ·rw[hv,hn]; rfl
 ·rw[hv]; rfl
theorem nxtI_some {n:Nat} {E:Nat→List Nat} {rd:Nat→Bool} {out:List Nat} {i:Nat} (h:nxt n E rd out=some i):nxtI n E (fun i=>rd i||inL out i)=(i:Int):=by
 unfold nxtI
 have:(List.range n).find? (rdyS n E (fun i=>rd i||inL out i))=some i:=h
 rw[this]
theorem nxtI_nothing {n:Nat} {E:Nat→List Nat} {rd:Nat→Bool} {out:List Nat} (h:nxt n E rd out=none):nxtI n E (fun i=>rd i||inL out i)=-1:=by
 unfold nxtI
 have:(List.range n).find? (rdyS n E (fun i=>rd i||inL out i))=none:=h
 rw[this]
def told (l:List Nd) (out:List Nat):List ByteArray:=(out.map (nmN l)).reverse
theorem told_cons (l:List Nd) (i:Nat) (out:List Nat):told l (i::out)=told l out++[nmN l i]:=by simp[told]
theorem told_len (l:List Nd) (out:List Nat):(told l out).length=out.length:=by simp[told]
theorem nmN_size {l:List Nd} (h:∀d∈l,d.name.size≤281474976710656) (i:Nat):(nmN l i).size≤maxLen:=by
 unfold nmN
 cases hk:l[i]? with
 |none=>exact Nat.zero_le _
 |some d=>have:=h d (List.mem_of_getElem? hk); show d.name.size≤_; unfold maxLen; omega
theorem told_size {l:List Nd} (h:∀d∈l,d.name.size≤281474976710656) (out:List Nat):∀s∈told l out,s.size≤maxLen:=fun s hs=>by
 simp only[told,List.mem_reverse,List.mem_map] at hs
 obtain⟨i,_,rfl⟩:=hs
 exact nmN_size h i
theorem nds_small {l:List Nd} (h:ndsFault l=0):l.length≤10∧∀d∈l,d.name.size≤8:=by
 unfold ndsFault at h
 by_cases h10:10<(l.length:Int)
 ·rw[if_pos h10] at h; exact absurd h (by decide)
 ·rw[if_neg h10] at h
  refine⟨by omega,fun d hd=>?_⟩
  have:=(order_all (fun _ h=>h) h d hd).2
  have hok:ndOk d=true:=by
   unfold ndFault bad4 at this
   by_cases hx:ndOk d=true
   ·exact hx
   ·rw[if_neg hx] at this; exact absurd this (by decide)
  have hi:identOk d.name=true:=by
   unfold ndOk at hok
   simp only[Bool.and_eq_true] at hok
   exact hok.1
  have hw:wordOk d.name=true:=by
   unfold identOk at hi
   simp only[Bool.and_eq_true] at hi
   exact hi.1
  by_cases hs:1≤d.name.size∧d.name.size≤8
  ·omega
  ·rw[word_long _ hs] at hw; cases hw
set_option maxHeartbeats 8000000 in
theorem order_any (S:Nat→Prop) (l:List Nd) (v:Value) (w:World) (hS:∀b,S b→b<w.heap.size) (hv:SlAt S (NdAt S w) 2 l v) :
  Calls Tryd.prog 8 #[v] w fun e w'=>∃vf vl,e=.returned (.tuple #[vf,vl,.int .i64 (ordN l).2.2])∧SlAt (fun b=>w.heap.size≤b∧b<w'.heap.size) (StrAt w') 1 (ordN l).1 vf∧SlAt (fun b=>w.heap.size≤b∧b<w'.heap.size) (StrAt w') 1 (ordN l).2.1 vl∧Below w.heap.size w w':=by
 have HC:Hid (Calls Tryd.prog 18 #[v] w fun e w'=>e=.returned (.int .i64 (ndsFault l))∧Below w.heap.size w w'):=checkNodes_any S l _ w hS hv
 have HL:=veil hv
 have hlen:=hv.len
 unfold maxLen at hlen
 obtain⟨la,lc,rfl⟩:=hv.is
 clear hv
 have HE:Hid (ordN l=if ndsFault l=0 then (((ordAll l.length (grE l) (rdB l.length (grE l))).map (nmN l)).reverse,namL l (rdB l.length (grE l)) l.length,0) else ([],[],ndsFault l)):=rfl
 by_cases hf:ndsFault l=0
 case neg=>
  have HE':Hid (ordN l=([],[],ndsFault l)):=HE.out.trans (if_neg hf)
  clear HE HL
  generalize ordN l=r at *
  generalize ndsFault l=er at *
  have hf':(er != 0)=true:=by simpa using hf
  clear hf
  go_enter Tryd.func8,Tryd.ntmps8
  go_wp2_with fail
  refine HC.out.mono ?_
  rintro e w1 ⟨rfl,hb1⟩
  have HB1:=veil hb1
  clear hb1
  go_wp2_with fail
  go_ret3
  rw[HE'.out]
  exact⟨_,_,rfl,⟨none,0,rfl,⟨by simp,by simp⟩,Or.inl rfl⟩,⟨none,0,rfl,⟨by simp,by simp⟩,Or.inl rfl⟩,HB1.out⟩
 obtain⟨h10,h8⟩:=nds_small hf
 have hx:∀d∈l,d.name.size≤281474976710656:=fun d hd=>by have:=h8 d hd; omega
 have HX:=veil hx
 have HE':Hid (ordN l=(told l (ordAll l.length (grE l) (rdB l.length (grE l))),namL l (rdB l.length (grE l)) l.length,0)):=HE.out.trans (if_pos hf)
 rw[hf] at HC
 clear HE hf h8 hx
 generalize hrd:rdB l.length (grE l)=rd at *
 have HRd:=veil hrd
 clear hrd
 obtain⟨i0,hi,hz0,hz1,hz2⟩:=info_parts str_info
 have HI0:=veil hi
 have HZ0:=veil hz0
 have HZ1:=veil hz1
 have HZ2:=veil hz2
 clear hi hz0 hz1 hz2
 generalize ordN l=r at *
 go_enter Tryd.func8,Tryd.ntmps8
 go_wp2_with fail
 refine HC.out.mono ?_
 rintro e w1 ⟨rfl,hb1⟩
 have HB1:=veil hb1
 clear hb1 HC
 go_wp2_with fail
 refine (finder_made _ _ _ _).mono ?_
 rintro e w2' ⟨rfl,rfl⟩
 obtain⟨w2,HW2,hs2,hb12,q0⟩:∃w2,Hid (w1.alloc (.cells #[.slice la l.length lc] 23)=w2)∧w2.heap.size=w1.heap.size+1∧Below w1.heap.size w1 w2∧w2.cell? ⟨w1.heap.size,0,none⟩=some (.slice la l.length lc):=
  ⟨_,rfl,by simp,(Below.refl _ _).alloc (Nat.le_refl _) _,by simp[go_sem]⟩
 have hb2:=HB1.out.trans (hb12.mono HB1.out.size)
 have HB2:=veil hb2
 have HR:Hid (Calls Tryd.prog 20 #[.slice la l.length lc,fndN w1.heap.size] w2 fun e w'=>∃rB,e=.returned (.slice (some ⟨rB,0,none⟩) l.length l.length)∧BRow w2 rB l.length rd w'):=by
  have:=rounds_any S l la lc w1.heap.size w2 (fun b hb=>Nat.lt_of_lt_of_le (hS b hb) hb2.size) (ndSl_keep (Keeps.below hb2 hS) HL.out) q0 (by omega)
  rw[HRd.out] at this
  exact this
 have HQ0:=veil q0
 have HS2:=veil hs2
 rw[HW2.out]
 clear hb2 hb12 q0 hs2 HW2
 go_wp2_with fail
 refine HR.out.mono ?_
 rintro e w3 ⟨rB,rfl,hrow⟩
 have hb3:=HB2.out.trans (hrow.below.mono HB2.out.size)
 have HB3:=veil hb3
 have HRow:Hid (BRow w rB l.length rd w3):=⟨hb3,Nat.le_trans HB2.out.size hrow.low,hrow.top,hrow.arr⟩
 have HLo:Hid (w1.heap.size<rB):=by have h1:=hrow.low; have h2:=HS2.out; show _<_; omega
 have HQ3:Hid (w3.cell? ⟨w1.heap.size,0,none⟩=some (.slice la l.length lc)):=(hrow.below.cell (World.block_lt_of_cell? _ _ HQ0.out)).trans HQ0.out
 have HN:Hid (Calls Tryd.prog 21 #[.slice la l.length lc,.slice (some ⟨rB,0,none⟩) l.length l.length] w3 fun e w'=>∃u,e=.returned u∧SlAt (fun b=>w3.heap.size≤b∧b<w'.heap.size) (StrAt w') 1 (namL l rd l.length) u∧Below w3.heap.size w3 w'):=
  namesOf_any S l la lc rB rd w3 (fun b hb=>Nat.lt_of_lt_of_le (hS b hb) hb3.size) (ndSl_keep (Keeps.below hb3 hS) HL.out) (by omega) HX.out (fun i hi=>(hrow.arr i hi).1)
 clear hrow hb3 HR HQ0 HS2
 go_wp2_with fail
 refine HN.out.mono ?_
 rintro e w5 ⟨vl,rfl,hlast,hb5⟩
 have hord:OrdAt w w5 rB l.length (fun i=>rd i||inL [] i) w5:=
  ⟨(HRow.out.keep hb5).same (fun i _=>by simp[inL]),Nat.lt_of_lt_of_le HRow.out.top hb5.size,Nat.le_trans HB3.out.size hb5.size,Nat.le_refl _,fun _ _ _=>rfl⟩
 have HOrd:=veil hord
 have HQ5:Hid (w5.cell? ⟨w1.heap.size,0,none⟩=some (.slice la l.length lc)):=(hb5.cell (World.block_lt_of_cell? _ _ HQ3.out)).trans HQ3.out
 have HLast:Hid (∀W,OrdAt w w5 rB l.length (fun i=>rd i||inL (ordAll l.length (grE l) rd) i) W→SlAt (fun b=>w.heap.size≤b∧b<W.heap.size) (StrAt W) 1 (namL l rd l.length) vl):=fun W hW=>by
  refine strSl_keep ⟨fun b hb=>hW.rest b hb.2 (by have:=HRow.out.top; omega),fun b hb=>⟨Nat.le_trans HB3.out.size hb.1,Nat.lt_of_lt_of_le hb.2 hW.size⟩⟩ hlast
 have HNext:Hid (∀out W,OrdAt w w5 rB l.length (fun i=>rd i||inL out i) W→Calls Tryd.prog 22 #[.slice la l.length lc,.slice (some ⟨rB,0,none⟩) l.length l.length,fndN w1.heap.size] W fun e w'=>e=.returned (.int .i64 (nxtI l.length (grE l) (fun i=>rd i||inL out i)))∧Below W.heap.size W w'):=fun out W hW=>by
  have hne:w1.heap.size≠rB:=by have:=HLo.out; show _≠_; omega
  have hlt:=World.block_lt_of_cell? _ _ HQ5.out
  refine next_any S l la lc w1.heap.size rB _ W (fun b hb=>Nat.lt_of_lt_of_le (hS b hb) hW.row.below.size) (ndSl_keep (Keeps.below hW.row.below hS) HL.out) ?_ (fun i hi=>(hW.row.arr i hi).1)
  rw[← HQ5.out]
  unfold World.cell?
  rw[hW.rest _ hlt hne]
 have HTs:Hid (∀out,∀s∈told l out,s.size≤maxLen):=told_size HX.out
 have hb5s:=hord.low5
 obtain⟨q1,q2,q3,rfl⟩:=hlast.slice
 clear hlast hb5 hord HN HQ3 HRow HB3 HQ5 HLo
 go_wp2_with fail
 refine (HNext.out [] _ HOrd.out).mono ?_
 rintro e w6 ⟨rfl,hb6⟩
 have HOrd6:=veil (HOrd.out.near (hb6.mono (Nat.le_refl _)))
 clear hb6 HOrd HB1 HB2
 go_wp2_with fail
 go_loopw [9,10] (fun v i wr=>∃(out:List Nat) (f:Nat),i=.int .i64 (nxtI l.length (grE l) (fun i=>rd i||inL out i))∧outs (inL out) l.length≤f∧out.length+outs (inL out) l.length≤l.length∧ordP l.length (grE l) rd f out=ordAll l.length (grE l) rd∧wr.ownsRow w5.heap.size 9 1 v (told l out).length (txVals (told l out))∧OrdAt w w5 rB l.length (fun i=>rd i||inL out i) wr) (fun v _ _=>l.length - slLen v)
 case atStart=>exact⟨[],l.length,rfl,outs_n _,by simpa using outs_n _,rfl,World.ownsRow_nil _ _ _ _,HOrd6.out⟩
 case round=>
  clear HOrd6
  obtain⟨out,f,rfl,hof,hol,hop,hown,hord⟩:=hrel
  have HOwn:=veil hown
  have HOrd:=veil hord
  have HOp:=veil hop
  have hlen5:=ownsTx_len hown
  rw[told_len] at hlen5
  clear hown hop hord
  cases hx:nxt l.length (grE l) rd out with
  |none=>
   rw[nxtI_nothing hx]
   have hoe:out=ordAll l.length (grE l) rd:=by rw[← HOp.out,ord_none hx]
   subst hoe
   have HF:Hid (SlAt (fun b=>w.heap.size≤b∧b<wr.heap.size) (StrAt wr) 1 (told l (ordAll l.length (grE l) rd)) u9):=(tx_row HOwn.out (by rw[told_len]; unfold maxLen; omega) (HTs.out _)).imp (fun b hb=>⟨Nat.le_trans HOrd.out.low5 hb.1,hb.2⟩) (fun _ _ _ _ _ h=>h)
   have HLs:=veil (HLast.out _ HOrd.out)
   have HB:=veil HOrd.out.row.below
   clear HNext HLast HOwn HOrd HOp hx
   go_wp2_with fail
   go_ret3
   rw[HE'.out]
   exact⟨_,_,rfl,HF.out,HLs.out,HB.out⟩
  |some i=>
   obtain⟨hin,hrdy⟩:=nxt_some hx
   obtain⟨hri,hio⟩:=rdy_not hrdy
   rw[nxtI_some hx]
   have ht:=outs_told hin hio
   obtain⟨f,rfl⟩:∃f',f=f'+1:=⟨f - 1,by omega⟩
   have HOp':Hid (ordP l.length (grE l) rd f (i::out)=ordAll l.length (grE l) rd):=by
    show _=_
    rw[← HOp.out,ord_some hx]
   have hin':(i:Int)<(l.length:Int):=by omega
   have hi0:(0:Int)≤(i:Int):=by omega
   obtain⟨_,b,off,rfl,hb,hat⟩:=HL.out.at hin
   obtain⟨a1,cap1,c0,m0,c1,hu⟩:=nd_cells hat
   have hbk:=hS b hb
   have hrow:=HOrd.out.row
   obtain⟨g0,gf⟩:=hrow.arr i hin
   have hbne:rB≠b:=by have:=hrow.low; omega
   have hput:=HOrd.out.put (q:=fun k=>rd k||inL (i::out) k) hin (fun k hk hne=>by
    show (rd k||inL (i::out) k)=(rd k||inL out k)
    rw[inL_cons]
    simp[hne])
   have hqi:(rd i||inL (i::out) i)=true:=by rw[inL_cons]; simp
   rw[hqi] at hput
   have HTold:Hid (told l (i::out)=told l out++[l[i].name]):=by show _=_; rw[told_cons,nmN_at hin]
   have hxk:=HX.out _ (List.getElem_mem hin)
   have hown2:(wr.setCell ⟨rB,i,none⟩ (.bool true)).ownsRow w5.heap.size 9 1 u9 (told l out).length (txVals (told l out)):=ownsRow_setCell_below HOwn.out (a:=⟨rB,i,none⟩) HOrd.out.in5 _
   obtain⟨wy,HWy,hyput,hyown,d0,d1⟩:∃wy,Hid (wr.setCell ⟨rB,i,none⟩ (.bool true)=wy)∧OrdAt w w5 rB l.length (fun k=>rd k||inL (i::out) k) wy∧wy.ownsRow w5.heap.size 9 1 u9 (told l out).length (txVals (told l out))∧wy.cell? ⟨b,off+i * 2,none⟩=some (.string l[i].name)∧wy.cell? ⟨b,off+i * 2+1,none⟩=some (.slice a1 l[i].uses.length cap1):=
    ⟨_,rfl,hput,hown2,by
     rw[World.cell?_setCell_far _ _ _ _ hbne]
     exact (hrow.below.cell (p:=⟨b,off+i * 2,none⟩) hbk).trans c0,by
     rw[World.cell?_setCell_far _ _ _ _ hbne]
     exact (hrow.below.cell (p:=⟨b,off+i * 2+1,none⟩) hbk).trans c1⟩
   have HYp:=veil hyput
   have HYo:=veil hyown
   have hby:b<wy.heap.size:=Nat.lt_of_lt_of_le hbk hyput.row.below.size
   have hcl:(told l out).length=out.length:=told_len l out
   have hri':(fun i=>rd i||inL out i) i=false:=by show (rd i||inL out i)=false; rw[hri,hio]; rfl
   rw[show (rd i||inL out i)=false from hri'] at g0
   have HN2:=veil (HNext.out (i::out))
   have HC2:Hid (∀W,Calls Tryd.prog 23 #[.agg #[.string l[i].name,.slice a1 l[i].uses.length cap1]] W fun e w'=>e=.returned (.string l[i].name)∧Below W.heap.size W w'):=fun W=>nameOf_any _ _ _ _ W hxk
   clear HOp hx hrdy hri hio HL hat hu m0 c0 c1 hbk hrow hput hqi hown2 hyput hyown HNext HOwn HOrd hri' HX hb hbne HLast HTs HE' HRd
   generalize l[i].name=x at *
   generalize l[i].uses.length=un at *
   go_wp2_with (first|(rw[HWy.out]; clear HWy)|fail)
   refine (HC2.out _).mono ?_
   rintro e w6 ⟨rfl,hb6⟩
   have HO6:=veil (ownsTx_later HYo.out hb6)
   have HP6:=veil (HYp.out.near (hb6.mono HYp.out.size))
   have hsz6:=HP6.out.size
   have HGr7:Hid (∀w',(w6.alloc (.cells #[.string x] 9)).grownBy w' (Value.ownBlock u9)→OrdAt w w5 rB l.length (fun k=>rd k||inL (i::out) k) w'):=fun w' hg=>by
    have hrow:=ownsTx_at HO6.out
    exact HP6.out.near (((Below.refl w5.heap.size w6).alloc hsz6 _).grown hg (by simp; omega) (fun q hq=>hrow q hq))
   clear hb6 HC2 HYo HYp d0 d1
   generalize htl:told l out=tl at *
   clear htl
   go_wp2_with (at_builtin; refine wpList_append_lies _ rfl _ _ 25 rfl w5.heap.size 9 i0 (.string ⟨#[]⟩) 1 16 Tryd.underlying25 HI0.out HZ0.out HZ1.out HZ2.out rfl (by decide) _ _ _ rfl (HO6.out.alloc _) ⟨w6.heap.size,0,none⟩ 1 1 [.string x] rfl rfl (tx_new _ _) (tx_one _) (by decide) (by unfold maxLen; omega) (by omega) (by simp; omega) (w6.heap.size+1) (by simp) ?_)
   intro g7 cap7 w7 hown7 hgrow7 hat7 hlt7
   all_goals
    have HP7:=veil (HGr7.out _ hgrow7)
    have HO7:Hid (w7.ownsRow w5.heap.size 9 1 (.slice (some ⟨g7,0,none⟩) (out.length+1) cap7) (told l (i::out)).length (txVals (told l (i::out)))):=by
     show w7.ownsRow _ _ _ _ _ _
     rw[HTold.out,tx_snoc,List.length_append,hcl]
     exact hown7
    clear hown7 hgrow7 hat7 hlt7
    go_wp2_with fail
    refine (HN2.out _ HP7.out).mono ?_
    rintro e w8 ⟨rfl,hb8⟩
    have HP8:=veil (HP7.out.near (hb8.mono HP7.out.size))
    have HO8:=veil (ownsTx_later HO7.out hb8)
    clear hb8 HN2
    go_wp2_with fail
    exact⟨⟨i::out,f,rfl,by omega,by simp only[List.length_cons]; omega,HOp'.out,HO8.out,HP8.out⟩,by rw[hlen5]; simp only[slLen]; omega⟩
end Go.Proofs.YtedpiamfpbdhoaaDoor
namespace Go.Proofs.YtedpiamfpbdhoaaDoor
open Go.RowKit
theorem order_pair {α:Type} {fault:α→Int} {name:α→ByteArray}:∀{l:List α} {p:ByteArray},orderFault fault name l p=0→l.Pairwise (fun a b=>gtB (name b) (name a)=true)
 |[],_,_=>.nil
 |y::r,p,h=>by
  rw[orderFault] at h
  by_cases hf:fault y=0
  ·rw[if_pos hf] at h
   by_cases hg:gtB (name y) p=true
   ·rw[if_pos hg] at h
    exact .cons (fun x hx=>(order_all (fun _ h=>h) h x hx).1) (order_pair h)
   ·rw[if_neg hg] at h; exact absurd h (by decide)
  ·rw[if_neg hf] at h; exact absurd h hf
theorem find_is {α:Type} {p:α→Bool}:∀{l:List α} (h:findAt p l<l.length),p l[findAt p l]=true
 |[],h=>absurd h (by simp[findAt])
 |x::r,h=>by
  by_cases hx:p x=true
  ·have e:findAt p (x::r)=0:=by rw[findAt,if_pos hx]
   simp only[e]; exact hx
  ·have e:findAt p (x::r)=findAt p r+1:=by rw[findAt,if_neg hx]
   simp only[e,List.getElem_cons_succ]
   exact find_is (by rw[e] at h; simpa using h)
theorem find_first {α:Type} {p:α→Bool}:∀{l:List α} {i:Nat} (h:i<l.length),p l[i]=true→(∀j (hj:j<i),p (l[j]'(by omega))=false)→findAt p l=i
 |[],_,h,_,_=>absurd h (by simp)
 |x::r,0,_,hp,_=>by
  have:p x=true:=hp
  rw[findAt,if_pos this]
 |x::r,i+1,h,hp,hn=>by
  have h0:p x=false:=hn 0 (by omega)
  rw[findAt,if_neg (by rw[h0]; simp),find_first (l:=r) (i:=i) (by simpa using h) (by simpa using hp) (fun j hj=>by simpa using hn (j+1) (by omega))]
def Alone (l:List Nd):Prop:=∀i j (hi:i<l.length) (hj:j<l.length),l[i].name=l[j].name→i=j
theorem nds_alone {l:List Nd} (h:ndsFault l=0):Alone l:=by
 have ho:orderFault ndFault Nd.name l ⟨#[]⟩=0:=by
  unfold ndsFault at h
  by_cases h10:10<(l.length:Int)
  ·rw[if_pos h10] at h; exact absurd h (by decide)
  ·rwa [if_neg h10] at h
 have hp:=List.pairwise_iff_getElem.1 (order_pair ho)
 intro i j hi hj he
 rcases Nat.lt_trichotomy i j with hij|hij|hij
 ·have:=gt_ne (hp i j hi hj hij)
  rw[he,sEq_refl] at this; cases this
 ·exact hij
 ·have:=gt_ne (hp j i hj hi hij)
  rw[he,sEq_refl] at this; cases this
theorem pos_of {l:List Nd} (ha:Alone l) {i:Nat} (hi:i<l.length):posN l l[i].name=i:=by
 refine find_first hi (sEq_refl _) (fun j hj=>?_)
 cases h:sEq (l[j]'(by omega)).name l[i].name with
 |false=>rfl
 |true=>exact absurd (ha j i (by omega) hi (sEq_eq h)) (by omega)
theorem pos_is {l:List Nd} {u:ByteArray} (h:posN l u<l.length):l[posN l u].name=u:=sEq_eq (find_is (p:=fun k:Nd=>sEq k.name u) h)
theorem grE_iff {l:List Nd} (ha:Alone l) {i j:Nat} (hi:i<l.length) (hj:j<l.length):j∈grE l i↔l[j].name∈l[i].uses:=by
 rw[grE_at hi,List.mem_map]
 constructor
 ·rintro ⟨u,hu,he⟩
  have:posN l u<l.length:=by omega
  have h2:=pos_is this
  simp only[he] at h2
  rw[h2]; exact hu
 ·exact fun h=>⟨_,h,pos_of ha hj⟩
end Go.Proofs.YtedpiamfpbdhoaaDoor
namespace Go.Proofs.YtedpiamfpbdhoaaDoor
open Go.RowKit
theorem outs_zero {p:Nat→Bool}:∀{n},outs p n=0→∀i,i<n→p i=true
 |0,_,i,hi=>absurd hi (by omega)
 |n+1,h,i,hi=>by
  unfold outs at h
  by_cases hn:p n=true
  ·rw[if_pos hn] at h
   by_cases hin:i=n
   ·subst hin; exact hn
   ·exact outs_zero (n:=n) (by omega) i (by omega)
  ·rw[if_neg hn] at h; omega
theorem round_in {n:Nat} {E:Nat→List Nat} {U:Nat→Prop} (hU:∀i,U i→∃j,j∈E i∧j<n∧U j):∀(c i:Nat),U i→outs (fun k=>!inL (reachL n E i) k) n≤c→∃k,U k∧Plus n E k k:=by
 intro c
 induction c with
 |zero=>
  intro i hi hc
  obtain⟨j,hj,hjn,_⟩:=hU i hi
  have:=outs_zero (p:=fun k=>!inL (reachL n E i) k) (by omega) j hjn
  have h2:inL (reachL n E i) j=true:=inL_iff.2 (reach_iff.2 (.one hj hjn))
  simp[h2] at this
 |succ c ih=>
  intro i hi hc
  obtain⟨j,hj,hjn,hju⟩:=hU i hi
  by_cases hp:Plus n E j j
  ·exact⟨j,hju,hp⟩
  ·refine ih j hju ?_
   have hlt:=outs_lt (p:=fun k=>!inL (reachL n E i) k) (q:=fun k=>!inL (reachL n E j) k) (k:=j) (n:=n) (fun k hk=>?_) ?_ ?_ hjn
   ·omega
   ·cases hx:inL (reachL n E j) k with
    |false=>rfl
    |true=>
     have h1:=reach_iff.1 (inL_iff.1 hx)
     have h2:inL (reachL n E i) k=true:=inL_iff.2 (reach_iff.2 (.more hj hjn h1))
     simp[h2] at hk
   ·have h2:inL (reachL n E i) j=true:=inL_iff.2 (reach_iff.2 (.one hj hjn))
    simp[h2]
   ·cases hx:inL (reachL n E j) j with
    |false=>rfl
    |true=>exact absurd (reach_iff.1 (inL_iff.1 hx)) hp
inductive Behind (n:Nat) (E:Nat→List Nat) (rd:Nat→Bool):List Nat→Prop
 |nil:Behind n E rd []
 |cons {i:Nat} {t:List Nat}:i<n→rd i=false→i ∉ t→(∀j∈E i,j<n→rd j=true∨j∈t)→Behind n E rd t→Behind n E rd (i::t)
theorem ord_behind {n:Nat} {E:Nat→List Nat} {rd:Nat→Bool}:∀(f:Nat) (out:List Nat),Behind n E rd out→Behind n E rd (ordP n E rd f out)
 |0,_,h=>h
 |f+1,out,h=>by
  cases hx:nxt n E rd out with
  |none=>rw[ord_none hx]; exact h
  |some i=>
   rw[ord_some hx]
   obtain⟨hi,hr⟩:=nxt_some hx
   obtain⟨h1,h2⟩:=rdy_not hr
   refine ord_behind f _ (.cons hi h1 (inL_not.1 h2) (fun j hj hjn=>?_) h)
   unfold rdyB at hr
   simp only[Bool.and_eq_true,List.all_eq_true] at hr
   have:=hr.2 j hj
   simp only[Bool.or_eq_true,decide_eq_true_eq] at this
   rcases this with h3|h3|h3
   ·omega
   ·exact .inl h3
   ·exact .inr (inL_iff.1 h3)
theorem ord_end {n:Nat} {E:Nat→List Nat} {rd:Nat→Bool}:∀(f:Nat) (out:List Nat),outs (inL out) n≤f→nxt n E rd (ordP n E rd f out)=none
 |0,out,h=>by
  show nxt n E rd out=none
  cases hx:nxt n E rd out with
  |none=>rfl
  |some i=>
   obtain⟨hi,hr⟩:=nxt_some hx
   obtain⟨_,h2⟩:=rdy_not hr
   have:=outs_zero (p:=inL out) (by omega) i hi
   rw[h2] at this; cases this
 |f+1,out,h=>by
  cases hx:nxt n E rd out with
  |none=>rw[ord_none hx]; exact hx
  |some i=>
   rw[ord_some hx]
   obtain⟨hi,hr⟩:=nxt_some hx
   obtain⟨_,h2⟩:=rdy_not hr
   have:=outs_told hi h2
   exact ord_end f _ (by omega)
theorem ord_full {n:Nat} {E:Nat→List Nat} {i:Nat} (hi:i<n):rdB n E i=true∨i∈ordAll n E (rdB n E):=by
 refine Classical.byContradiction fun hno=>?_
 have hend:=ord_end (n:=n) (E:=E) (rd:=rdB n E) n [] (outs_n n)
 have hU:∀k,(k<n∧rdB n E k=false∧k ∉ ordAll n E (rdB n E))→∃j,j∈E k∧j<n∧(j<n∧rdB n E j=false∧j ∉ ordAll n E (rdB n E)):=by
  rintro k ⟨hk,hr,ho⟩
  have hf:=nxt_none hend hk
  unfold rdyB at hf
  have ho':inL (ordP n E (rdB n E) n []) k=false:=inL_not.2 ho
  rw[hr,ho'] at hf
  simp only[Bool.or_self,Bool.not_false,Bool.true_and] at hf
  have hex:∃j∈E k,(decide (n≤j)||(rdB n E j||inL (ordP n E (rdB n E) n []) j))=false:=by
   refine Classical.byContradiction fun hn=>?_
   have hall:((E k).all fun j=>decide (n≤j)||(rdB n E j||inL (ordP n E (rdB n E) n []) j))=true:=by
    rw[List.all_eq_true]
    intro j hj
    cases hx:(decide (n≤j)||(rdB n E j||inL (ordP n E (rdB n E) n []) j)) with
    |true=>rfl
    |false=>exact absurd ⟨j,hj,hx⟩ hn
   rw[hall] at hf; cases hf
  obtain⟨j,hj,hx⟩:=hex
  simp only[Bool.or_eq_false_iff,decide_eq_false_iff_not] at hx
  exact⟨j,hj,by omega,by omega,hx.2.1,inL_not.1 hx.2.2⟩
 have h0:rdB n E i=false:=by
  cases hx:rdB n E i with
  |false=>rfl
  |true=>exact absurd (.inl hx) hno
 obtain⟨k,⟨_,hk,_⟩,hp⟩:=round_in (n:=n) (E:=E) (U:=fun k=>k<n∧rdB n E k=false∧k ∉ ordAll n E (rdB n E)) hU n i ⟨hi,h0,fun h=>hno (.inr h)⟩ (outs_n n)
 rw[rd_iff.2 hp] at hk; cases hk
theorem namL_iff' {l:List Nd} {p:Nat→Bool} {s:ByteArray}:∀{k:Nat},s∈namL l p k↔∃i,i<k∧p i=true∧s=nmN l i
 |0=>by simp[namL]
 |k+1=>by
  unfold namL
  rw[List.mem_append,namL_iff']
  constructor
  ·rintro (⟨i,h1,h2⟩|h)
   ·exact⟨i,by omega,h2⟩
   ·by_cases hp:p k=true
    ·rw[if_pos hp] at h
     exact⟨k,by omega,hp,by simpa using h⟩
    ·rw[if_neg hp] at h; cases h
  ·rintro ⟨i,h1,h2,h3⟩
   by_cases hik:i=k
   ·subst hik
    exact .inr (by rw[if_pos h2]; simpa using h3)
   ·exact .inl ⟨i,by omega,h2,h3⟩
theorem Behind.lt {n:Nat} {E:Nat→List Nat} {rd:Nat→Bool} {out:List Nat} (h:Behind n E rd out):∀i∈out,i<n∧rd i=false:=by
 induction h with
 |nil=>intro i hi; cases hi
 |cons h1 h2 _ _ _ ih=>
  intro k hk
  rcases List.mem_cons.1 hk with rfl|hk
  ·exact⟨h1,h2⟩
  ·exact ih k hk
theorem Behind.nodup {n:Nat} {E:Nat→List Nat} {rd:Nat→Bool} {out:List Nat} (h:Behind n E rd out):out.Nodup:=by
 induction h with
 |nil=>exact List.nodup_nil
 |cons _ _ h3 _ _ ih=>exact List.nodup_cons.2 ⟨h3,ih⟩
theorem Behind.part {n:Nat} {E:Nat→List Nat} {rd:Nat→Bool} {out:List Nat} (h:Behind n E rd out) {i:Nat} (hi:i∈out):∃a t,out=a++i::t∧i ∉ t∧∀j∈E i,j<n→rd j=true∨j∈t:=by
 induction h with
 |nil=>cases hi
 |@cons k t h1 h2 h3 h4 _ ih=>
  by_cases hik:i=k
  ·subst hik
   exact⟨[],t,rfl,h3,h4⟩
  ·obtain⟨a,t',e,h5,h6⟩:=ih ((List.mem_cons.1 hi).resolve_left hik)
   exact⟨k::a,t',by rw[e]; rfl,h5,h6⟩
theorem find_app {α:Type} {p:α→Bool}:∀{a b:List α},(∃x∈a,p x=true)→findAt p (a++b)<a.length
 |[],_,h=>by obtain⟨x,hx,_⟩:=h; cases hx
 |y::r,b,h=>by
  rw[List.cons_append,findAt]
  by_cases hy:p y=true
  ·rw[if_pos hy]; simp
  ·rw[if_neg hy,List.length_cons]
   have:=find_app (a:=r) (b:=b) (by
    obtain⟨x,hx,hp⟩:=h
    rcases List.mem_cons.1 hx with rfl|hx
    ·exact absurd hp hy
    ·exact⟨x,hx,hp⟩)
   omega
theorem find_mid {α:Type} {p:α→Bool}:∀{a b:List α} {x:α},(∀y∈a,p y=false)→p x=true→findAt p (a++x::b)=a.length
 |[],_,x,_,hx=>by rw[List.nil_append,findAt,if_pos hx]; rfl
 |y::r,b,x,h,hx=>by
  rw[List.cons_append,findAt,if_neg (by rw[h y (List.mem_cons_self ..)]; simp),find_mid (fun z hz=>h z (List.mem_cons_of_mem _ hz)) hx]; rfl
theorem told_ahead {l:List Nd} (hf:ndsFault l=0) {i:Nat} (hi:i<l.length) {u:ByteArray} (hu:u∈l[i].uses) :
  let L:=told l (ordAll l.length (grE l) (rdB l.length (grE l)))
  findAt (fun x=>sEq x l[i].name) L<L.length→findAt (fun x=>sEq x u) L<L.length→findAt (fun x=>sEq x u) L<findAt (fun x=>sEq x l[i].name) L:=by
 intro L h1 h2
 have ha:=nds_alone hf
 have hB:Behind l.length (grE l) (rdB l.length (grE l)) (ordAll l.length (grE l) (rdB l.length (grE l))):=ord_behind _ _ .nil
 have hmem:∀s,(∃x∈L,sEq x s=true)→∃j∈ordAll l.length (grE l) (rdB l.length (grE l)),nmN l j=s:=by
  rintro s ⟨x,hx,hs⟩
  simp only[L,told,List.mem_reverse,List.mem_map] at hx
  obtain⟨j,hj,rfl⟩:=hx
  exact⟨j,hj,sEq_eq hs⟩
 obtain⟨i',hi',hin⟩:=hmem _ (find_any_iff.1 h1)
 obtain⟨j,hj,hjn⟩:=hmem _ (find_any_iff.1 h2)
 have hil:=(hB.lt i' hi').1
 have hjl:=(hB.lt j hj).1
 rw[nmN_at hil] at hin
 have hii:i'=i:=ha i' i hil hi hin
 subst hii
 rw[nmN_at hjl] at hjn
 obtain⟨a,t,e,hnt,hE⟩:=hB.part hi'
 have hje:j∈grE l i':=(grE_iff ha hil hjl).2 (by rw[hjn]; exact hu)
 have hjt:j∈t:=(hE j hje hjl).resolve_left (by rw[(hB.lt j hj).2]; simp)
 have hL:L=told l t++nmN l i'::told l a:=by
  simp only[L,e,told,List.map_append,List.map_cons,List.reverse_append,List.reverse_cons,List.append_assoc,List.singleton_append]
 have hpos:findAt (fun x=>sEq x l[i'].name) L=(told l t).length:=by
  rw[hL]
  refine find_mid (fun y hy=>?_) (by rw[nmN_at hil]; exact sEq_refl _)
  simp only[told,List.mem_reverse,List.mem_map] at hy
  obtain⟨k,hk,rfl⟩:=hy
  cases hx:sEq (nmN l k) l[i'].name with
  |false=>rfl
  |true=>
   have hko:k∈ordAll l.length (grE l) (rdB l.length (grE l)):=by rw[e]; simp[hk]
   have hkl:=(hB.lt k hko).1
   have:=sEq_eq hx
   rw[nmN_at hkl] at this
   have:=ha k i' hkl hil this
   subst this
   exact absurd hk hnt
 rw[hpos,hL]
 refine find_app ⟨nmN l j,?_,?_⟩
 ·simp only[told,List.mem_reverse,List.mem_map]
  exact⟨j,hjt,rfl⟩
 ·rw[nmN_at hjl,hjn]; exact sEq_refl _
theorem all_told {l:List Nd} (hf:ndsFault l=0):((ordN l).1++(ordN l).2.1).Nodup∧∀i,i<l.length→nmN l i∈(ordN l).1++(ordN l).2.1:=by
 have ha:=nds_alone hf
 have hB:Behind l.length (grE l) (rdB l.length (grE l)) (ordAll l.length (grE l) (rdB l.length (grE l))):=ord_behind _ _ .nil
 have e:ordN l=(told l (ordAll l.length (grE l) (rdB l.length (grE l))),namL l (rdB l.length (grE l)) l.length,0):=by
  unfold ordN; rw[if_pos hf]; rfl
 rw[e]
 have hinj:∀i j,i<l.length→j<l.length→nmN l i=nmN l j→i=j:=fun i j hi hj h=>by
  rw[nmN_at hi,nmN_at hj] at h
  exact ha i j hi hj h
 refine⟨?_,fun i hi=>?_⟩
 ·rw[List.nodup_append]
  refine⟨?_,?_,?_⟩
  ·show (told l _).Nodup
   unfold told
   refine List.pairwise_reverse.2 (List.pairwise_map.2 (hB.nodup.imp_of_mem fun {a b} hx hy hne h=>hne (hinj a b (hB.lt a hx).1 (hB.lt b hy).1 h.symm)))
  ·show (namL l _ l.length).Nodup
   have:∀k,k≤l.length→(namL l (rdB l.length (grE l)) k).Nodup:=by
    intro k
    induction k with
    |zero=>intro _; exact List.nodup_nil
    |succ k ih=>
     intro hk
     unfold namL
     rw[List.nodup_append]
     refine⟨ih (by omega),?_,?_⟩
     ·split
      ·simp
      ·exact List.nodup_nil
     ·intro x hx y hy hxy
      obtain⟨q,hq,_,rfl⟩:=namL_iff'.1 hx
      split at hy
      ·simp at hy
       subst hy
       have:=hinj q k (by omega) (by omega) hxy
       omega
      ·cases hy
   exact this _ (Nat.le_refl _)
  ·intro x hx y hy hxy
   simp only[told,List.mem_reverse,List.mem_map] at hx
   obtain⟨i,hi,rfl⟩:=hx
   obtain⟨q,hq,hr,rfl⟩:=namL_iff'.1 hy
   have:=hinj i q (hB.lt i hi).1 hq hxy
   subst this
   rw[(hB.lt i hi).2] at hr; cases hr
 ·rw[List.mem_append]
  rcases ord_full (E:=grE l) hi with h|h
  ·exact .inr (namL_iff'.2 ⟨i,hi,h,rfl⟩)
  ·refine .inl ?_
   simp only[told,List.mem_reverse,List.mem_map]
   exact⟨i,h,rfl⟩
end Go.Proofs.YtedpiamfpbdhoaaDoor
namespace Go.Proofs.YtedpiamfpbdhoaaDoor
open Go.RowKit
open Go.Shelf (Ren)
theorem less_asymm:∀{a b:List UInt8},Op.bytesLess a b=true→Op.bytesLess b a=false
 |[],[],h=>by simp[Op.bytesLess] at h
 |[],_::_,_=>by simp[Op.bytesLess]
 |_::_,[],h=>by simp[Op.bytesLess] at h
 |x::xs,y::ys,h=>by
  simp only[Op.bytesLess,Bool.or_eq_true,decide_eq_true_eq,Bool.and_eq_true,beq_iff_eq,Bool.or_eq_false_iff,decide_eq_false_iff_not,Bool.and_eq_false_iff,beq_eq_false_iff_ne] at *
  rcases h with h|⟨rfl,h⟩
  ·have:=UInt8.lt_iff_toNat_lt.1 h
   refine⟨fun h'=>by have:=UInt8.lt_iff_toNat_lt.1 h'; omega,Or.inl fun e=>?_⟩
   subst e; omega
  ·refine⟨fun h'=>by have:=UInt8.lt_iff_toNat_lt.1 h'; omega,Or.inr (less_asymm h)⟩
theorem less_irrefl (a:List UInt8):Op.bytesLess a a=false:=by
 cases h:Op.bytesLess a a with
 |false=>rfl
 |true=>rw[less_asymm h] at h; cases h
theorem less_tr {a b c:List UInt8} (h1:Op.bytesLess a b=true) (h2:Op.bytesLess b c=true):Op.bytesLess a c=true:=by
 cases h:Op.bytesLess a c with
 |true=>rfl
 |false=>
  have:=less_trans h (less_asymm h2)
  rw[h1] at this; cases this
theorem compare_less:∀(a b:List UInt8),decide (Lib.compareBytes a b<0)=Op.bytesLess a b
 |[],[]=>by simp[Lib.compareBytes,Op.bytesLess]
 |[],_::_=>by simp[Lib.compareBytes,Op.bytesLess]
 |_::_,[]=>by simp[Lib.compareBytes,Op.bytesLess]
 |x::xs,y::ys=>by
  rw[Lib.compareBytes,Op.bytesLess]
  by_cases h1:x<y
  ·simp[h1]
  ·by_cases h2:y<x
   ·have hne:¬x=y:=fun e=>by subst e; exact h1 h2
    simp[h1,h2,hne]
   ·have e:x=y:=UInt8.toNat_inj.1 (by
     have a1:=mt UInt8.lt_iff_toNat_lt.2 h1
     have a2:=mt UInt8.lt_iff_toNat_lt.2 h2
     omega)
    subst e
    simp[h1,compare_less xs ys]
section
variable {α:Type} (name:α→ByteArray)
def RisesB (l:List α):Prop:=l.Pairwise fun a b=>gtB (name b) (name a)=true
def Apart (l:List α):Prop:=l.Pairwise fun a b=>sEq (name a) (name b)=false
def cmpN (x y:α):Int:=Lib.compareBytes (name x).data.toList (name y).data.toList
theorem ltOf_cmpN (x y:α):ltOf (cmpN name) x y=Op.bytesLess (name x).toList (name y).toList:=by
 unfold ltOf cmpN
 rw[compare_less,Lib.toList_data,Lib.toList_data]
theorem swo_cmpN:Sort.SWO (ltOf (cmpN name)) where
 irrefl x:=by rw[ltOf_cmpN]; exact less_irrefl _
 trans x y z h1 h2:=by rw[ltOf_cmpN] at *; exact less_tr h1 h2
 ntrans x y z h1 h2:=by rw[ltOf_cmpN] at *; exact less_trans h1 h2
theorem sorted_rises [Inhabited α] {d d':Array α} (hp:Sort.PermIn 0 d.size d d') (hs:Sort.SortedIn (ltOf (cmpN name)) 0 d.size d') (ha:Apart name d.toList):d'.toList.Perm d.toList∧RisesB name d'.toList:=by
 obtain⟨hsz,_,hperm⟩:=hp
 have e1:d'.extract 0 d.size=d':=by rw[← hsz]; simp
 have e2:d.extract 0 d.size=d:=by simp
 rw[e1,e2] at hperm
 refine⟨hperm,?_⟩
 have ha':Apart name d'.toList:=(hperm.pairwise_iff (by
  intro x y h
  unfold sEq at *
  rw[beq_eq_false_iff_ne] at *
  exact fun e=>h e.symm)).2 ha
 unfold RisesB
 unfold Apart at ha'
 rw[List.pairwise_iff_getElem] at *
 intro i j hi hj hij
 have h1:=hs i j (Nat.zero_le _) hij (by rw[← hsz]; simpa using hj)
 rw[ltOf_cmpN] at h1
 have h2:=ha' i j hi hj hij
 have g1:d'[i]! = d'.toList[i]:=by simp at hi; simp[getElem!_pos,hi]
 have g2:d'[j]! = d'.toList[j]:=by simp at hj; simp[getElem!_pos,hj]
 rw[g1,g2] at h1
 unfold gtB
 rw[h1]
 unfold sEq at h2
 rw[beq_eq_false_iff_ne] at h2
 have h3:((name d'.toList[j]).toList==(name d'.toList[i]).toList)=false:=beq_eq_false_iff_ne.2 fun e=>h2 e.symm
 rw[h3]; rfl
end
end Go.Proofs.YtedpiamfpbdhoaaDoor
namespace Go.Proofs.YtedpiamfpbdhoaaDoor
open Go.RowKit
theorem isNaN_tx (x:ByteArray) (w:World):Calls Tryd.prog 54 #[.string x] w fun e w'=>e=.returned (.bool false)∧w=w':=by
 go_enter Tryd.func54,Tryd.ntmps54
 go_wp2
 go_ret
 exact⟨by simp,rfl⟩
theorem less_tx (x y:ByteArray) (w:World):Calls Tryd.prog 26 #[.string x,.string y] w fun e w'=>e=.returned (.bool (Op.bytesLess x.toList y.toList))∧w=w':=by
 have HN:=veil (fun x W=>isNaN_tx x W)
 generalize hl:Op.bytesLess x.toList y.toList=r
 have hl':Op.bytesLess x.toList y.toList=r:=hl
 clear hl
 go_enter Tryd.func26,Tryd.ntmps26
 go_wp2_with fail
 refine (HN.out _ _).mono ?_
 rintro e w1 ⟨rfl,rfl⟩
 go_wp2_with fail
 go_ret
 exact⟨rfl,rfl⟩
set_option maxHeartbeats 4000000 in
theorem sorted_tx (S:Nat→Prop) (l:List ByteArray) (v:Value) (w:World) (hS:∀b,S b→b<w.heap.size) (hv:SlAt S (StrAt w) 1 l v) (hr:RisesB (fun s:ByteArray=>s) l) :
  Calls Tryd.prog 11 #[v] w fun e w'=>e=.returned (.bool true)∧Below w.heap.size w w':=by
 have HV:=veil hv
 have hlen:=hv.len
 unfold maxLen at hlen
 obtain⟨a,cap,rfl⟩:=hv.is
 have HR:=veil hr
 clear hv hr
 go_enter Tryd.func11,Tryd.ntmps11
 go_wp2_with fail
 go_loopw [3] (fun i wr=>∃j:Nat,j≤l.length∧i=.int .i64 ((j:Int) - 1)∧Below w.heap.size w wr) (fun i _=>(intOf i+1).toNat)
 case atStart=>exact⟨l.length,Nat.le_refl _,rfl,Below.refl _ _⟩
 case round=>
  obtain⟨j,hj,rfl,hbl⟩:=hrel
  have HBl:=veil hbl
  by_cases hjt:1<j
  ·have hg:(0:Int)<(j:Int) - 1:=by omega
   have hp0:(0:Int)≤(j:Int) - 1:=by omega
   have hp1:(j:Int) - 1<(l.length:Int):=by omega
   have hq0:(0:Int)≤(j:Int) - 1 - 1:=by omega
   have hq1:(j:Int) - 1 - 1<(l.length:Int):=by omega
   have hm1:((j:Int) - 1).toNat=j - 1:=by omega
   have hm2:((j:Int) - 1 - 1).toNat=j - 2:=by omega
   obtain⟨_,b,off,rfl,hb,c0,_⟩:=HV.out.at (k:=j - 1) (by omega)
   obtain⟨_,b',off',e,hb',c1,_⟩:=HV.out.at (k:=j - 2) (by omega)
   injection e with e; injection e with e1 e2; subst e1 e2
   rw[Nat.mul_one] at c0 c1
   have d0:=(hbl.cell (p:=⟨b,off+(j - 1),none⟩) (hS b hb)).trans c0
   have d1:=(hbl.cell (p:=⟨b,off+(j - 2),none⟩) (hS b hb)).trans c1
   have hr:=List.pairwise_iff_getElem.1 HR.out (j - 2) (j - 1) (by omega) (by omega) (by omega)
   have HLs:Hid (∀W,Calls Tryd.prog 26 #[.string l[j - 1],.string l[j - 2]] W fun e w'=>e=.returned (.bool false)∧W=w'):=fun W=>by
    have h1:=less_tx l[j - 1] l[j - 2] W
    have h2:Op.bytesLess (l[j - 1]).toList (l[j - 2]).toList=false:=by
     unfold gtB at hr
     simp only[Bool.and_eq_true,Bool.not_eq_true'] at hr
     exact hr.1
    rw[h2] at h1
    exact h1
   have HD:Hid (∀n,Below w.heap.size w (wr.drewN n)):=fun n=>below_drewN HBl.out n
   clear c0 c1 hr hbl HV HR
   generalize l[j - 1]'(by omega)=x at *
   generalize l[j - 2]'(by omega)=y at *
   go_wp2_with fail
   go_quiet (exact Calls.quiet_of_same ((HLs.out _).mono fun _ _ ⟨he,hw⟩=>⟨he,hw.symm⟩))
   go_wp2_with fail
   exact⟨⟨j - 1,by omega,by simp; omega,HD.out _⟩,by simp[intOf]; omega⟩
  ·have hg:¬(0:Int)<(j:Int) - 1:=by omega
   clear hbl HV HR
   go_wp2_with fail
   go_ret
   exact⟨rfl,HBl.out⟩
theorem rounds_rise {l:List Nd} (hf:ndsFault l=0):RisesB (fun s:ByteArray=>s) (ordN l).2.1:=by
 have ho:orderFault ndFault Nd.name l ⟨#[]⟩=0:=by
  unfold ndsFault at hf
  by_cases h10:10<(l.length:Int)
  ·rw[if_pos h10] at hf; exact absurd hf (by decide)
  ·rwa [if_neg h10] at hf
 have hp:=List.pairwise_iff_getElem.1 (order_pair ho)
 have e:(ordN l).2.1=namL l (rdB l.length (grE l)) l.length:=by unfold ordN; rw[if_pos hf]
 rw[e]
 have:∀k,k≤l.length→RisesB (fun s:ByteArray=>s) (namL l (rdB l.length (grE l)) k):=by
  intro k
  induction k with
  |zero=>intro _; exact List.Pairwise.nil
  |succ k ih=>
   intro hk
   unfold namL RisesB
   rw[List.pairwise_append]
   refine⟨ih (by omega),by split <;> simp,fun x hx y hy=>?_⟩
   obtain⟨q,hq,_,rfl⟩:=namL_iff'.1 hx
   split at hy
   ·simp at hy
    subst hy
    rw[nmN_at (by omega),nmN_at (by omega)]
    exact hp q k (by omega) (by omega) hq
   ·cases hy
 exact this _ (Nat.le_refl _)
end Go.Proofs.YtedpiamfpbdhoaaDoor
namespace Go.Proofs.YtedpiamfpbdhoaaDoor
open Go.RowKit
theorem txVals_len (l:List ByteArray):(txVals l).length=l.length:=by simp[txVals]
theorem run_append_txs {w:World} {base:Nat} {v vd:Value} {xs d:List ByteArray} {S:Nat→Prop} (hown:w.ownsRow base 9 1 v xs.length (txVals xs)) (hd:SlAt S (StrAt w) 1 d vd) (hb:base≤w.heap.size) (hl:xs.length+d.length≤10000) (ty:TypeId) :
  ∃v' w',(Builtin.append_ #[25,25] ty #[v,vd]).run Tryd.prog w=.ok v' w'∧w'.ownsRow base 9 1 v' (xs++d).length (txVals (xs++d))∧w.grownBy w' v.ownBlock:=by
 obtain⟨i0,hi,hz0,hz1,hz2⟩:=info_parts str_info
 obtain⟨a,cap,rfl,hlen,h⟩:=hd
 have e:txVals (xs++d)=txVals xs++txVals d:=by simp[txVals]
 have hone:∀u∈txVals d,u.oneCell'=true:=fun u hu=>by
  unfold txVals at hu
  obtain⟨t,_,rfl⟩:=List.mem_map.1 hu
  rfl
 have hsame:d.length=0→a=none→∃v' w',(Builtin.append_ #[25,25] ty #[v,.slice a d.length cap]).run Tryd.prog w=.ok v' w'∧w'.ownsRow base 9 1 v' (xs++d).length (txVals (xs++d))∧w.grownBy w' v.ownBlock:=fun h0 ha=>by
  have hd0:d=[]:=List.length_eq_zero_iff.1 h0
  subst hd0 ha
  refine⟨v,w,?_,by simpa using hown,⟨rfl,rfl,rfl,Nat.le_refl _,fun _ _ _=>rfl⟩⟩
  rcases hown.2 with ⟨rfl,h1⟩|⟨g,cap',cur,rfl,_,_,hnc,_⟩
  ·simp[Builtin.append_,run_underlying Tryd.underlying25,sizeOf,typeInfo,hi,Builtin.lenOf,Builtin.firstCells]
  ·simp[Builtin.append_,run_underlying Tryd.underlying25,sizeOf,typeInfo,hi,Builtin.lenOf,Builtin.firstCells,hnc,storeCells]
 have hat:∀ad:Addr,a=some ad→(∀j u,(txVals d)[j]? = some u→w.cell? (ad.add j)=some u)→∃v' w',(Builtin.append_ #[25,25] ty #[v,.slice a d.length cap]).run Tryd.prog w=.ok v' w'∧w'.ownsRow base 9 1 v' (xs++d).length (txVals (xs++d))∧w.grownBy w' v.ownBlock:=fun ad ha hc=>by
  subst ha
  rw[List.length_append,e]
  obtain⟨v',w',h1,h2,h3,_⟩:=run_append_own_at (P:=Tryd.prog) w base 25 ty 9 i0 (.string ⟨#[]⟩) 1 16 Tryd.underlying25 hi hz0 hz1 hz2 rfl (by decide) v xs.length (txVals xs) hown ad d.length cap (txVals d) (by rw[txVals_len,Nat.mul_one]) hc hone (by unfold maxLen; omega) (by omega) hb
  exact⟨v',w',h1,h2,h3⟩
 rcases h with h0|⟨b,o,rfl,_,hr⟩
 ·cases a with
  |none=>exact hsame h0 rfl
  |some ad=>
   refine hat ad rfl fun j u hj=>?_
   have hd0:d=[]:=List.length_eq_zero_iff.1 h0
   subst hd0
   simp[txVals] at hj
 ·refine hat _ rfl fun j u hj=>?_
  have hj':j<d.length:=by
   rw[← txVals_len d]
   exact (List.getElem?_eq_some_iff.1 hj).1
  have c0:=(hr.get j hj').1
  rw[Nat.mul_one] at c0
  have hadd:(⟨b,o,none⟩:Addr).add j=⟨b,o+j,none⟩:=by unfold Addr.add; split <;> simp_all
  rw[hadd,c0]
  simpa [txVals,List.getElem?_eq_getElem hj'] using hj
theorem apart_grown {w w':World} {v:Value} {g n cap:Nat} {o:Obj} {l:List ByteArray} {u:Value} (h:SlAt (fun b=>b<w.heap.size∧v.ownBlock≠some b) (StrAt w) 1 l u) (hg:(w.alloc o).grownBy w' v.ownBlock) (hat:v.ownBlock=some g∨g=w.heap.size+1) :
  SlAt (fun b=>b<w'.heap.size∧(Value.slice (some ⟨g,0,none⟩) n cap).ownBlock≠some b) (StrAt w') 1 l u:=by
 have hsz:(w.alloc o).heap.size=w.heap.size+1:=by simp
 refine strSl_keep ⟨fun b hb=>?_,fun _ hb=>⟨?_,fun he=>?_⟩⟩ h
 ·rw[hg.block b (by omega) (fun e=>hb.2 e.symm)]
  exact ((Below.refl w.heap.size w).alloc (Nat.le_refl _) o).block b hb.1
 ·have:=hg.size; omega
 ·rename_i b
  have e:g=b:=by simpa [Value.ownBlock] using he
  subst e
  rcases hat with h1|h1
  ·exact hb.2 h1
  ·omega
theorem apart_later {w w':World} {v:Value} {l:List ByteArray} {u:Value} (h:SlAt (fun b=>b<w.heap.size∧v.ownBlock≠some b) (StrAt w) 1 l u) (hb:Below w.heap.size w w'):SlAt (fun b=>b<w'.heap.size∧v.ownBlock≠some b) (StrAt w') 1 l u:=
 strSl_keep ⟨fun b h=>hb.block b h.1,fun _ h=>⟨Nat.lt_of_lt_of_le h.1 hb.size,h.2⟩⟩ h
end Go.Proofs.YtedpiamfpbdhoaaDoor
namespace Go.Proofs
open Go.Shelf
def Tryd.growTx_ren:Go.Shelf.Ren:=⟨fun|4=>24|n=>n,fun|22=>25|25=>9|3=>3|4=>4|9=>9|20=>20|0=>0|n=>n,fun|n=>n⟩
theorem Tryd.growTx:Go.Proofs.Lays8.n4 Tryd.prog Tryd.growTx_ren:={
 mixed:=by kernel_rfl
 f4:=⟨Tryd.f24.name,by decide,Tryd.func24.trans (congrArg some (by kernel_rfl))⟩
 t0:=Tryd.underlying0
 a0:=Tryd.isAgg0
 z0:=Tryd.sizeOf0
 v0:=Tryd.zeroValue0
 t3:=Tryd.underlying3
 a3:=Tryd.isAgg3
 z3:=Tryd.sizeOf3
 v3:=Tryd.zeroValue3
 t4:=Tryd.underlying4
 a4:=Tryd.isAgg4
 z4:=Tryd.sizeOf4
 v4:=Tryd.zeroValue4
 t9:=Tryd.underlying9
 a9:=Tryd.isAgg9
 z9:=Tryd.sizeOf9
 v9:=Tryd.zeroValue9
 t20:=Tryd.underlying20
 a20:=Tryd.isAgg20
 z20:=Tryd.sizeOf20
 v20:=Tryd.zeroValue20
 t22:=Tryd.underlying25
 a22:=Tryd.isAgg25
 z22:=Tryd.sizeOf25
 v22:=Tryd.zeroValue25 }
end Go.Proofs
namespace Go.Proofs.YtedpiamfpbdhoaaDoor
open Go.RowKit
def TsAt (S:Nat→Prop) (w:World) (d:List ByteArray) (b o:Nat):Prop:=∃v,w.cell? ⟨b,o,none⟩=some v∧SlAt S (StrAt w) 1 d v
def tsLen:List (List ByteArray)→Nat
 |[]=>0
 |d::r=>d.length+tsLen r
def tsCat:List (List ByteArray)→List ByteArray
 |[]=>[]
 |d::r=>d++tsCat r
theorem tsCat_len:∀l,(tsCat l).length=tsLen l
 |[]=>rfl
 |d::r=>by rw[tsCat,tsLen,List.length_append,tsCat_len r]
theorem tsLen_take {l:List (List ByteArray)}:∀{k:Nat} (h:k<l.length),tsLen (l.take (k+1))=tsLen (l.take k)+l[k].length:=by
 induction l with
 |nil=>intro k h; simp at h
 |cons d r ih=>
  intro k h
  cases k with
  |zero=>simp[tsLen]
  |succ k=>simp only[List.take_succ_cons,tsLen,List.getElem_cons_succ]; rw[ih (by simpa using h)]; omega
theorem tsCat_take {l:List (List ByteArray)}:∀{k:Nat} (h:k<l.length),tsCat (l.take (k+1))=tsCat (l.take k)++l[k]:=by
 induction l with
 |nil=>intro k h; simp at h
 |cons d r ih=>
  intro k h
  cases k with
  |zero=>simp[tsCat]
  |succ k=>simp only[List.take_succ_cons,tsCat,List.getElem_cons_succ]; rw[ih (by simpa using h),List.append_assoc]
theorem tsLen_le {l:List (List ByteArray)}:∀(k:Nat),tsLen (l.take k)≤tsLen l:=by
 induction l with
 |nil=>intro k; simp
 |cons d r ih=>
  intro k
  cases k with
  |zero=>simp[tsLen]
  |succ k=>simp only[List.take_succ_cons,tsLen]; have:=ih k; omega
theorem grow_txs (n:Nat) (hn:n≤1000) (w:World):Calls Tryd.prog 24 #[.slice none 0 0,.int .i64 n] w fun e w'=>∃v,e=.returned v∧w'.ownsRow w.heap.size 9 1 v 0 []∧Below w.heap.size w w':=by
 obtain⟨i0,hi,hz0,hz1,hz2⟩:=info_parts str_info
 by_cases h0:n=0
 ·subst h0
  refine (Any8.slices_Grow_room Tryd.growTx none 0 0 0 w (by omega) (by omega) (by omega) (by omega)).mono ?_
  rintro e w' ⟨rfl,rfl⟩
  exact⟨_,rfl,World.ownsRow_nil _ _ _ _,Below.refl _ _⟩
 ·refine (Any8.slices_Grow_grow Tryd.growTx i0 _ hi hz0 (by omega) none 0 0 n [] w (by omega) (by omega) (by rw[hz2]; omega) (by omega) (by simp) (fun _=>rfl) (fun a h=>by cases h)).mono ?_
  rintro e w' ⟨rfl,rfl⟩
  have hge:=grownCap_ge w (0+n) 0 (Tryd.growTx_ren.t 25)
  have hcm:=grownCap_le_maxLen w (0+n) 0 (Tryd.growTx_ren.t 25) (by unfold maxLen; omega)
  refine⟨_,rfl,⟨rfl,Or.inr ⟨w.heap.size,_,_,rfl,Nat.le_refl _,heap_alloc_new w.drew _,by omega,hcm,?_,by simp⟩⟩,((Below.refl _ _).drew).alloc (Nat.le_refl _) _⟩
  have hzs:(Value.string ⟨#[]⟩).cells.size=1:=rfl
  simp only[Array.size_append,List.size_toArray,size_zeroCells,hzs,List.length_nil]
  omega
set_option maxRecDepth 100000 in
set_option maxHeartbeats 4000000 in
theorem concat_tx (S:Nat→Prop) (ds:List (List ByteArray)) (v:Value) (w:World) (hS:∀b,S b→b<w.heap.size) (hv:SlAt S (TsAt S w) 1 ds v) (hn:tsLen ds≤1000) :
  Calls Tryd.prog 9 #[v] w fun e w'=>∃u,e=.returned u∧w'.ownsRow w.heap.size 9 1 u (tsCat ds).length (txVals (tsCat ds))∧Below w.heap.size w w':=by
 have HV:=veil hv
 have hlen:=hv.len
 unfold maxLen at hlen
 obtain⟨a,cap,rfl⟩:=hv.is
 clear hv
 go_enter Tryd.func9,Tryd.ntmps9
 go_wp2_with fail
 go_loopw [3,11] (fun s i wr=>∃k:Nat,k≤ds.length∧i=.int .i64 k∧s=.int .i64 (tsLen (ds.take k):Nat)∧Below w.heap.size w wr) (fun _ i _=>ds.length - (intOf i).toNat)
 case atStart=>exact⟨0,Nat.zero_le _,rfl,rfl,Below.refl _ _⟩
 case round=>
  obtain⟨k,hk,rfl,rfl,hbl⟩:=hrel
  have HBl:=veil hbl
  have hle:=tsLen_le (l:=ds) k
  by_cases hlt:k<ds.length
  ·have hlt':(k:Int)<(ds.length:Int):=by omega
   have hk0:(0:Int)≤(k:Int):=by omega
   obtain⟨_,b,off,rfl,hb,⟨vd,c0,hd⟩⟩:=HV.out.at hlt
   rw[Nat.mul_one] at c0
   have d0:=(hbl.cell (p:=⟨b,off+k,none⟩) (hS b hb)).trans c0
   have hle1:=tsLen_le (l:=ds) (k+1)
   have hT:=tsLen_take hlt
   obtain⟨a2,cap2,rfl⟩:=hd.is
   generalize tsLen (ds.take k)=s0 at *
   obtain⟨s1,hs1⟩:∃s1,s1=tsLen (ds.take (k+1)):=⟨_,rfl⟩
   have HS1:=veil hs1
   rw[← hs1] at hT hle1
   clear hs1
   generalize ds[k].length=m0 at *
   have hw1:wrap64 ((s0:Int)+(m0:Int))=((s1:Nat):Int):=by unfold wrap64; omega
   have hpos:¬((s1:Nat):Int)<0:=by omega
   clear c0 hbl hT hd
   go_wp2_with fail
   exact⟨⟨k+1,by omega,by go_num,by rw[hw1,HS1.out],HBl.out⟩,by simp[intOf]; omega⟩
  ·have hnl:¬(k:Int)<(ds.length:Int):=by omega
   have hke:k=ds.length:=by omega
   subst hke
   rw[List.take_length] at hle
   have HG:=veil (fun W=>grow_txs (tsLen ds) hn W)
   rw[List.take_length]
   go_wp2_with fail
   refine (HG.out _).mono ?_
   rintro e w2 ⟨nv,rfl,hown,hb2⟩
   have hwr:=hbl.size
   have HB2:=veil (HBl.out.trans (hb2.mono hbl.size))
   have HOwn:Hid (w2.ownsRow w.heap.size 9 1 nv 0 []):=⟨hown.1,hown.2.imp_right fun ⟨g,cap,cur,h1,h2,h3⟩=>⟨g,cap,cur,h1,Nat.le_trans hwr h2,h3⟩⟩
   clear hown hb2 hbl HG HBl
   go_wp2_with fail
   go_loopw [6,27] (fun v i wz=>∃j:Nat,j≤ds.length∧i=.int .i64 j∧wz.ownsRow w.heap.size 9 1 v (tsCat (ds.take j)).length (txVals (tsCat (ds.take j)))∧Below w.heap.size w wz) (fun _ i _=>ds.length - (intOf i).toNat)
   case atStart=>exact⟨0,Nat.zero_le _,rfl,HOwn.out,HB2.out⟩
   case round=>
    clear HOwn HB2
    obtain⟨j,hj,rfl,hown,hbz⟩:=hrel
    have HBz:=veil hbz
    have HOwn:=veil hown
    have hlj:=tsLen_le (l:=ds) j
    rw[← tsCat_len] at hlj
    by_cases hjt:j<ds.length
    ·have hjt':(j:Int)<(ds.length:Int):=by omega
     have hj0:(0:Int)≤(j:Int):=by omega
     obtain⟨_,b,off,rfl,hb,⟨vd,c0,hd⟩⟩:=HV.out.at hjt
     rw[Nat.mul_one] at c0
     have d0:=(hbz.cell (p:=⟨b,off+j,none⟩) (hS b hb)).trans c0
     have hl1:=tsLen_le (l:=ds) (j+1)
     rw[tsLen_take hjt,← tsCat_len] at hl1
     obtain⟨a2,cap2,rfl⟩:=hd.is
     obtain⟨v',w',hrun,hown',hgr⟩:=run_append_txs hown (strSl_keep (Keeps.below hbz hS) hd) hbz.size (by omega) 25
     have HRun:=veil hrun
     have HO':Hid (w'.ownsRow w.heap.size 9 1 v' (tsCat (ds.take (j+1))).length (txVals (tsCat (ds.take (j+1))))):=by
      show w'.ownsRow _ _ _ _ _ _
      rw[tsCat_take hjt]; exact hown'
     have HB':Hid (Below w.heap.size w w'):=hbz.grown hgr hbz.size (fun q hq=>ownsTx_at hown q hq)
     clear hown hown' hgr hrun c0 hbz hd HOwn HBz
     go_wp2_with (at_builtin; refine Lib.wpList_append_run _ rfl _ _ _ _ rfl _ _ rfl rfl _ _ HRun.out ?_)
     exact⟨⟨j+1,by omega,by go_num,HO'.out,HB'.out⟩,by simp[intOf]; omega⟩
    ·have hjn:¬(j:Int)<(ds.length:Int):=by omega
     have hje:j=ds.length:=by omega
     subst hje
     rw[List.take_length] at hown hlj
     have HR:=veil hown
     clear hown HOwn hbz
     go_wp2_with fail
     go_ret
     exact⟨_,rfl,HR.out,HBz.out⟩
end Go.Proofs.YtedpiamfpbdhoaaDoor
namespace Go.Proofs.YtedpiamfpbdhoaaDoor
open Go.RowKit
theorem ownsRow_in {w:World} {base:Nat} {e:TypeId} {size:Nat} {v:Value} {n:Nat} {xs:List Value} (h:w.ownsRow base e size v n xs):∀j,v.ownBlock=some j→base≤j∧j<w.heap.size:=by
 intro j hj
 rcases h.2 with ⟨rfl,_⟩|⟨g,cap,cur,rfl,hb,hg,_⟩
 ·cases hj
 ·have:g=j:=by simpa [Value.ownBlock] using hj
  subst this
  refine⟨hb,?_⟩
  rcases Nat.lt_or_ge g w.heap.size with h1|h1
  ·exact h1
  ·rw[Array.getElem?_eq_none h1] at hg; cases hg
end Go.Proofs.YtedpiamfpbdhoaaDoor
namespace Go.Proofs.YtedpiamfpbdhoaaDoor
open Go.RowKit
def putMany (cur:Array Value) (o:Nat):List Value→Array Value
 |[]=>cur
 |v::r=>putMany (cur.setIfInBounds o v) (o+1) r
theorem putMany_size:∀(vs:List Value) (cur:Array Value) (o:Nat),(putMany cur o vs).size=cur.size
 |[],_,_=>rfl
 |v::r,cur,o=>by rw[putMany,putMany_size r]; simp
theorem putMany_list:∀(vs:List Value) (cur:Array Value) (o:Nat),o+vs.length≤cur.size→(putMany cur o vs).toList.take (o+vs.length)=cur.toList.take o++vs
 |[],cur,o,_=>by simp[putMany]
 |v::r,cur,o,h=>by
  simp only[List.length_cons] at h
  have ih:=putMany_list r (cur.setIfInBounds o v) (o+1) (by simp; omega)
  rw[putMany,List.length_cons,show o+(r.length+1)=o+1+r.length by omega,ih]
  have ho:o<cur.toList.length:=by simp; omega
  have:(cur.setIfInBounds o v).toList.take (o+1)=cur.toList.take o++[v]:=by
   rw[Array.toList_setIfInBounds,List.take_set,List.take_add_one,List.getElem?_eq_getElem ho]
   have hl:(cur.toList.take o).length=o:=by rw[List.length_take]; omega
   rw[List.set_append_right _ _ (by rw[hl]; exact Nat.le_refl _),hl,Nat.sub_self]
   simp
  rw[this]
  simp
theorem block_set {w:World} {g:Nat} {cur:Array Value} {e:TypeId} (h:w.heap[g]? = some (.cells cur e (0,0))) (o:Nat) (u:Value) :
  (w.setCell ⟨g,o,none⟩ u).heap[g]? = some (.cells (cur.setIfInBounds o u) e (0,0)):=by
 simp[World.setCell,Array.getElem?_modify,h]
theorem block_sets {g:Nat} {e:TypeId}:∀(vs:List Value) {w:World} {cur:Array Value} (_:w.heap[g]? = some (.cells cur e (0,0))) (o:Nat),(w.setCells g o vs).heap[g]? = some (.cells (putMany cur o vs) e (0,0))
 |[],_,_,h,_=>h
 |v::r,w,cur,h,o=>by
  rw[World.setCells,putMany]
  exact block_sets r (block_set h o v) (o+1)
theorem own_put {w:World} {base:Nat} {e:TypeId} {g m cap:Nat} {xs old new:List Value} (h:w.ownsRow base e 5 (.slice (some ⟨g,0,none⟩) (m+1) cap) (m+1) (xs++old)) (ho:old.length=5) (hn:new.length=5) :
  (w.setCells g (m * 5) new).ownsRow base e 5 (.slice (some ⟨g,0,none⟩) (m+1) cap) (m+1) (xs++new):=by
 obtain⟨hl,⟨h1,_⟩|⟨g',cap',cur,h1,hb,hg,hc,hm,hs,ht⟩⟩:=h
 ·cases h1
 ·cases h1
  have hx:xs.length=m * 5:=by simp only[List.length_append,ho] at hl; omega
  refine⟨by simp only[List.length_append,hn,hx]; omega,Or.inr ⟨g,cap,putMany cur (m * 5) new,rfl,hb,block_sets new hg _,hc,hm,by rw[putMany_size,hs],?_⟩⟩
  have e1:(m+1) * 5=m * 5+new.length:=by rw[hn]; omega
  have hle:m * 5+new.length≤cur.size:=by
   rw[hs,hn]
   have:=Nat.mul_le_mul_right 5 hc
   omega
  rw[e1,putMany_list new cur _ hle]
  congr 1
  have:=congrArg (List.take (m * 5)) ht
  rw[List.take_take,Nat.min_eq_left (by omega),List.take_append_of_le_length (by omega)] at this
  rw[this,List.take_of_length_le (by omega)]
structure Grew (base bl:Nat) (T Tl:TypeId) (v v':Value) (n:Nat) (ys:List Value) (W W':World):Prop where
 os:W'.os=W.os
 tape:W'.tape=W.tape
 output:W'.output=W.output
 size:W.heap.size≤W'.heap.size
 box:W'.heap[bl]? = some (.cells #[v'] Tl (0,0))
 own:W'.ownsRow base T 5 v' n ys
 rest:∀k,k<W.heap.size→k≠bl→some k≠v.ownBlock→W'.heap[k]? = W.heap[k]?
 row:∀k,v'.ownBlock=some k→v.ownBlock=some k∨W.heap.size≤k
theorem heap_size_setCell (w:World) (a:Addr) (u:Value):(w.setCell a u).heap.size=w.heap.size:=by simp[World.setCell]
theorem heap_size_setCells (g:Nat):∀(vs:List Value) (o:Nat) (w:World),(w.setCells g o vs).heap.size=w.heap.size
 |[],_,_=>rfl
 |v::r,o,w=>by rw[World.setCells,heap_size_setCells g r]; exact heap_size_setCell _ _ _
theorem tape_setCells (g:Nat):∀(vs:List Value) (o:Nat) (w:World),(w.setCells g o vs).tape=w.tape
 |[],_,_=>rfl
 |v::r,o,w=>by rw[World.setCells,tape_setCells g r]; rfl
theorem Grew.put {base bl:Nat} {T Tl:TypeId} {v:Value} {m g cap:Nat} {xs old new:List Value} {W W':World} (h:Grew base bl T Tl v (.slice (some ⟨g,0,none⟩) (m+1) cap) (m+1) (xs++old) W W') (hbl:bl<base) (ho:old.length=5) (hn:new.length=5) :
  Grew base bl T Tl v (.slice (some ⟨g,0,none⟩) (m+1) cap) (m+1) (xs++new) W (W'.setCells g (m * 5) new):=by
 have hg:=ownsRow_in h.own g rfl
 have hrow:=h.row g rfl
 refine⟨(World.os_setCells _ _ _ _).trans h.os,(tape_setCells _ _ _ _).trans h.tape,(World.output_setCells _ _ _ _).trans h.output,by rw[heap_size_setCells]; exact h.size,?_,own_put h.own ho hn,?_,h.row⟩
 ·rw[World.heap_setCells_other _ _ _ _ (by have:=World.block_lt_of_cell? W' ⟨bl,0,none⟩ (cell_of_row W' bl 0 _ _ _ h.box); exact this) (by omega)]
  exact h.box
 ·intro k hk hne hr
  rw[World.heap_setCells_other _ _ _ _ (by have:=h.size; omega) (by rintro rfl; rcases hrow with h1|h1; exact hr h1.symm; omega)]
  exact h.rest k hk hne hr
def Normal (R:Act→World→Prop):Exit→Act→World→Prop
 |.normal,a,w=>R a w
 |_,_,_=>False
section
variable {P:Program} {md:Region.Mode} {ops:Array Oper} {Q:Exit→Act→World→Prop} {S:World→Prop}
theorem any_one {fuel:Nat} {listed:Array Bool} {a:Act} {w:World} (i:Nat) {o:Oper} (hr:Region.ready md ops listed=[i]) (hi:ops.toList[i]? = some o) (hg:o.guard=none)
  (h:∀K:Act→World→Prop,(∀a' w',S w'→wpAnyH P md ops Q S fuel (listed.setIfInBounds i true) a' w'→K a' w')→Oper.wp P o a w K Q):wpAnyH P md ops Q S (fuel+1) listed a w:=
 wpAnyH_ready hr (by simp) (AllReadyH.cons (by simpa using hi) (fun K hK=>by
  rw[if_pos (by simp[Region.wanted,hg])]
  exact h K (fun a' w' hS hW=>hK.out a' w' hS (fun _=>hW))) AllReadyH.nil)
theorem any_two {fuel:Nat} {listed:Array Bool} {a:Act} {w:World} (i j:Nat) {o p:Oper} (hr:Region.ready md ops listed=[i,j]) (hi:ops.toList[i]? = some o) (hj:ops.toList[j]? = some p) (hg:o.guard=none) (hp:p.guard=none)
  (h:∀K:Act→World→Prop,(∀a' w',S w'→wpAnyH P md ops Q S fuel (listed.setIfInBounds i true) a' w'→K a' w')→Oper.wp P o a w K Q)
  (h':∀K:Act→World→Prop,(∀a' w',S w'→wpAnyH P md ops Q S fuel (listed.setIfInBounds j true) a' w'→K a' w')→Oper.wp P p a w K Q):wpAnyH P md ops Q S (fuel+1) listed a w:=
 wpAnyH_ready hr (by simp) (AllReadyH.cons (by simpa using hi) (fun K hK=>by
  rw[if_pos (by simp[Region.wanted,hg])]
  exact h K (fun a' w' hS hW=>hK.out a' w' hS (fun _=>hW))) (AllReadyH.cons (by simpa using hj) (fun K hK=>by
  rw[if_pos (by simp[Region.wanted,hp])]
  exact h' K (fun a' w' hS hW=>hK.out a' w' hS (fun _=>hW))) AllReadyH.nil))
theorem any_take {fuel:Nat} {listed:Array Bool} {a:Act} {w:World} (i:Nat) {o:Oper} {dst:Option Tmp} {v:Value} (hi:ops.toList[i]? = some o) (hd:o.dst=dst) (hs:Region.noSelect ops=true) (hf:Region.free md ops listed i=true) (hr:(Region.ready md ops listed).contains i=true)
  (hQ:∀c a w,Q (.panic c) (a.put dst v) w→Q (.panic c) a w) (hy:YieldsIf P ops S o v a) (hS:S w)
  (h:wpAnyH P md ops Q S fuel (listed.setIfInBounds i true) (a.put dst v) w):wpAnyH P md ops Q S (fuel+1) listed a w:=by
 subst hd
 exact wpAnyH_take (by simpa using hi) hs hf hr hQ hy hS h
end
end Go.Proofs.YtedpiamfpbdhoaaDoor
namespace Go.Proofs.YtedpiamfpbdhoaaDoor
open Go.RowKit
end Go.Proofs.YtedpiamfpbdhoaaDoor
namespace Go.Proofs.YtedpiamfpbdhoaaDoor
open Go.RowKit Go.Shelf
open Go.Sort (grow putRowK putRow mapBlock ahead onCells HoldsK Holds flatK size_flatK get_flatK alloc_eq_grow grow_grow)
section
variable {α:Type} [Inhabited α] (enc:α→List Value) (k:Nat)
theorem flat_at (hk:∀x,(enc x).length=k) (hk0:0<k):∀(l:List α) (j:Nat),j<l.length * k→(l.flatMap enc)[j]? = some ((enc (l.toArray[j / k]!))[j % k]!)
 |[],j,h=>by simp at h
 |x::r,j,h=>by
  rw[List.flatMap_cons]
  by_cases hj:j<k
  ·rw[List.getElem?_append_left (by rw[hk]; exact hj),Nat.div_eq_of_lt hj,Nat.mod_eq_of_lt hj]
   have:(x::r).toArray[0]! = x:=by simp
   rw[this,List.getElem?_eq_getElem (by rw[hk]; exact hj),getElem!_pos]
  ·have hj':j - k<r.length * k:=by rw[List.length_cons,Nat.add_mul,Nat.one_mul] at h; omega
   rw[List.getElem?_append_right (by rw[hk]; omega),hk,flat_at hk hk0 r (j - k) hj']
   have e1:j / k=(j - k) / k+1:=by
    conv=>lhs; rw[show j=(j - k)+k by omega]
    exact Nat.add_div_right _ hk0
   have e2:j % k=(j - k) % k:=by
    conv=>lhs; rw[show j=(j - k)+k by omega]
    exact Nat.add_mod_right _ _
   rw[e1,e2]
   have:(x::r).toArray[(j - k) / k+1]! = r.toArray[(j - k) / k]!:=by
    simp[getElem!_def]
   rw[this]
theorem owns_holds {w:World} {base:Nat} {e:TypeId} {g cap:Nat} {l:List α} (hk:∀x,(enc x).length=k) (hk0:0<k) (h:w.ownsRow base e k (.slice (some ⟨g,0,none⟩) l.length cap) l.length (l.flatMap enc)):HoldsK enc k w g 0 l.toArray:=by
 obtain⟨hx,⟨hv,_⟩|⟨g',cap',cur,hv,hg,hh,h1,h2,h3,h4⟩⟩:=h
 ·cases hv
 ·injection hv with e1 e2 e3
  injection e1 with e1
  injection e1 with e1
  subst e1 e3
  intro j hj
  rw[size_flatK] at hj
  have hj':j<l.length * k:=by simpa using hj
  have hf:=flat_at enc k hk hk0 l j hj'
  rw[← h4,List.getElem?_take_of_lt hj'] at hf
  rw[get_flatK enc k l.toArray j hj]
  refine⟨?_,Lib.frozen_of_heap hh _⟩
  rw[cell_of_row w g (0+j) cur e (0,0) hh,Nat.zero_add]
  simpa using hf
theorem sortWorld_grown {w:World} {g m:Nat} {d:Array α} {os:Array Obj}:w.grownBy (sortWorldK enc k w g 0 m d os) (some g):=by
 refine⟨rfl,rfl,rfl,?_,fun j hj hjg=>?_⟩
 ·simp[sortWorldK,grow,putRowK,putRow,mapBlock]
 ·have hne:g≠j:=fun e=>hjg (by rw[e])
  simp[sortWorldK,grow,putRowK,putRow,mapBlock,Array.getElem?_append,hj,Array.getElem_modify,hne]
theorem sortWorld_holds {w:World} {g m:Nat} {d d':Array α} {os:Array Obj} (hH:HoldsK enc k w g 0 d) (hg:g<w.heap.size) (hs:d'.size=d.size):HoldsK enc k (sortWorldK enc k w g 0 m d' os) g 0 d':=
 SWK.holds ⟨m,os,rfl⟩ hg hH hs
end
end Go.Proofs.YtedpiamfpbdhoaaDoor
namespace Go.Proofs
open Go.Shelf
def Tryd.sortNd_ren:Go.Shelf.Ren:=⟨fun|6=>5|15=>16|14=>15|28=>35|29=>36|20=>27|21=>28|22=>29|23=>30|24=>31|25=>32|26=>33|27=>34|46=>55|47=>56|48=>57|49=>58|50=>59|57=>68|n=>n,fun|22=>23|24=>27|25=>33|3=>3|39=>46|0=>0|53=>68|55=>70|4=>4|46=>61|45=>60|50=>65|5=>5|9=>9|66=>82|70=>86|76=>92|77=>93|n=>n,fun|n=>n⟩
theorem Tryd.sortNd:Go.Proofs.SlLaysF0.n6 Tryd.prog Tryd.sortNd_ren:={
 mixed:=by kernel_rfl
 f6:=⟨Tryd.f5.name,by decide,Tryd.func5.trans (congrArg some (by kernel_rfl))⟩
 f14:=⟨Tryd.f15.name,by decide,Tryd.func15.trans (congrArg some (by kernel_rfl))⟩
 f15:=Tryd.func16.trans (congrArg some (by kernel_rfl))
 f20:=⟨Tryd.f27.name,by decide,Tryd.func27.trans (congrArg some (by kernel_rfl))⟩
 f21:=⟨Tryd.f28.name,by decide,Tryd.func28.trans (congrArg some (by kernel_rfl))⟩
 f22:=⟨Tryd.f29.name,by decide,Tryd.func29.trans (congrArg some (by kernel_rfl))⟩
 f23:=⟨Tryd.f30.name,by decide,Tryd.func30.trans (congrArg some (by kernel_rfl))⟩
 f24:=⟨Tryd.f31.name,by decide,Tryd.func31.trans (congrArg some (by kernel_rfl))⟩
 f25:=⟨Tryd.f32.name,by decide,Tryd.func32.trans (congrArg some (by kernel_rfl))⟩
 f26:=⟨Tryd.f33.name,by decide,Tryd.func33.trans (congrArg some (by kernel_rfl))⟩
 f27:=⟨Tryd.f34.name,by decide,Tryd.func34.trans (congrArg some (by kernel_rfl))⟩
 f28:=Tryd.func35.trans (congrArg some (by kernel_rfl))
 f29:=Tryd.func36.trans (congrArg some (by kernel_rfl))
 f46:=⟨Tryd.f55.name,by decide,Tryd.func55.trans (congrArg some (by kernel_rfl))⟩
 f47:=Tryd.func56.trans (congrArg some (by kernel_rfl))
 f48:=Tryd.func57.trans (congrArg some (by kernel_rfl))
 f49:=⟨Tryd.f58.name,by decide,Tryd.func58.trans (congrArg some (by kernel_rfl))⟩
 f50:=⟨Tryd.f59.name,by decide,Tryd.func59.trans (congrArg some (by kernel_rfl))⟩
 f57:=⟨Tryd.f68.name,by decide,Tryd.func68.trans (congrArg some (by kernel_rfl))⟩
 t0:=Tryd.underlying0
 a0:=Tryd.isAgg0
 z0:=Tryd.sizeOf0
 v0:=Tryd.zeroValue0
 t3:=Tryd.underlying3
 a3:=Tryd.isAgg3
 z3:=Tryd.sizeOf3
 v3:=Tryd.zeroValue3
 t4:=Tryd.underlying4
 a4:=Tryd.isAgg4
 z4:=Tryd.sizeOf4
 v4:=Tryd.zeroValue4
 t5:=Tryd.underlying5
 a5:=Tryd.isAgg5
 z5:=Tryd.sizeOf5
 v5:=Tryd.zeroValue5
 t9:=Tryd.underlying9
 a9:=Tryd.isAgg9
 z9:=Tryd.sizeOf9
 v9:=Tryd.zeroValue9
 t22:=Tryd.underlying23
 a22:=Tryd.isAgg23
 z22:=Tryd.sizeOf23
 v22:=Tryd.zeroValue23
 t25:=Tryd.underlying33
 a25:=Tryd.isAgg33
 z25:=Tryd.sizeOf33
 v25:=Tryd.zeroValue33
 t39:=Tryd.underlying46
 a39:=Tryd.isAgg46
 z39:=Tryd.sizeOf46
 v39:=Tryd.zeroValue46
 t45:=Tryd.underlying60
 a45:=Tryd.isAgg60
 z45:=Tryd.sizeOf60
 v45:=Tryd.zeroValue60
 t46:=Tryd.underlying61
 a46:=Tryd.isAgg61
 z46:=Tryd.sizeOf61
 v46:=Tryd.zeroValue61
 t50:=Tryd.underlying65
 a50:=Tryd.isAgg65
 z50:=Tryd.sizeOf65
 v50:=Tryd.zeroValue65
 t53:=Tryd.underlying68
 a53:=Tryd.isAgg68
 z53:=Tryd.sizeOf68
 v53:=Tryd.zeroValue68
 t55:=Tryd.underlying70
 a55:=Tryd.isAgg70
 z55:=Tryd.sizeOf70
 v55:=Tryd.zeroValue70
 t66:=Tryd.underlying82
 a66:=Tryd.isAgg82
 z66:=Tryd.sizeOf82
 v66:=Tryd.zeroValue82
 t70:=Tryd.underlying86
 a70:=Tryd.isAgg86
 z70:=Tryd.sizeOf86
 v70:=Tryd.zeroValue86
 t76:=Tryd.underlying92
 a76:=Tryd.isAgg92
 z76:=Tryd.sizeOf92
 v76:=Tryd.zeroValue92
 t77:=Tryd.underlying93
 a77:=Tryd.isAgg93
 z77:=Tryd.sizeOf93
 v77:=Tryd.zeroValue93 }
def Tryd.lays106_ren:Go.Shelf.Ren:=⟨fun|106=>7|213=>17|265=>37|n=>n,fun|9=>9|3=>3|n=>n,fun|n=>n⟩
theorem Tryd.lays106:Go.Proofs.Lays.n106 Tryd.prog Tryd.lays106_ren:={
 mixed:=by kernel_rfl
 f106:=Tryd.func7.trans (congrArg some (by kernel_rfl))
 f213:=Tryd.func17.trans (congrArg some (by kernel_rfl))
 f265:=Tryd.func37.trans (congrArg some (by kernel_rfl))
 t3:=Tryd.underlying3
 a3:=Tryd.isAgg3
 z3:=Tryd.sizeOf3
 v3:=Tryd.zeroValue3
 t9:=Tryd.underlying9
 a9:=Tryd.isAgg9
 z9:=Tryd.sizeOf9
 v9:=Tryd.zeroValue9 }
theorem Tryd.strings_Compare (a b:ByteArray) (w:World) :
  Calls Tryd.prog 7 #[.string a,.string b] w fun e w'=>e=.returned (.int .i64 (Lib.compareBytes a.data.toList b.data.toList))∧w'=w:=Any.strings_Compare Tryd.lays106 a b w
end Go.Proofs
namespace Go.Proofs.YtedpiamfpbdhoaaDoor
open Go.RowKit Go.Shelf
open Go.Sort (grow putRowK putRow mapBlock ahead onCells HoldsK Holds flatK size_flatK get_flatK alloc_eq_grow grow_grow)
abbrev Ny:=Nd×Option Addr×Nat×Nat
def nyName (y:Ny):ByteArray:=y.1.name
def nyVal (y:Ny):Value:=.slice y.2.1 y.2.2.1 y.2.2.2
def encNy (y:Ny):List Value:=[.string y.1.name,.slice y.2.1 y.2.2.1 y.2.2.2]
def nyCells (l:List Ny):List Value:=l.flatMap encNy
theorem nyCells_snoc (l:List Ny) (y:Ny):nyCells (l++[y])=nyCells l++[.string y.1.name,nyVal y]:=by simp[nyCells,encNy,nyVal]
def NyAt (w:World) (y:Ny) (b o:Nat):Prop:=w.cell? ⟨b,o,none⟩=some (.string y.1.name)∧w.cell? ⟨b,o+1,none⟩=some (nyVal y)
set_option maxHeartbeats 1000000 in
theorem byName_nd (x y:Ny) (W:World):Calls Tryd.prog 6 #[.agg #[.string x.1.name,.slice x.2.1 x.2.2.1 x.2.2.2],.agg #[.string y.1.name,.slice y.2.1 y.2.2.1 y.2.2.2]] W fun e w'=>e=.returned (.int .i64 (cmpN nyName x y))∧∃q os',w'=grow (W.drewN q) os':=by
 have HC:Hid (∀W,Calls Tryd.prog 7 #[.string x.1.name,.string y.1.name] W fun e w'=>e=.returned (.int .i64 (Lib.compareBytes x.1.name.data.toList y.1.name.data.toList))∧w'=W):=fun W=>Tryd.strings_Compare x.1.name y.1.name W
 have HE:Hid (cmpN nyName x y=Lib.compareBytes x.1.name.data.toList y.1.name.data.toList):=rfl
 generalize cmpN nyName x y=r at *
 generalize Lib.compareBytes x.1.name.data.toList y.1.name.data.toList=r' at *
 go_enter Tryd.func6,Tryd.ntmps6
 go_wp2_with fail
 refine (HC.out _).mono ?_
 rintro e w' ⟨rfl,rfl⟩
 go_wp2_with fail
 go_ret
 exact⟨by rw[HE.out]; rfl,0,_,by rw[alloc_eq_grow,alloc_eq_grow,grow_grow]; rfl⟩
theorem sort_nd {w:World} {base:Nat} {v:Value} {l:List Ny} (h:w.ownsRow base 27 2 v l.length (nyCells l)) (hl:l.length≤100) (ha:Apart nyName l) :
  Calls Tryd.prog 5 #[v,.func (.func 6) #[] #[]] w fun e w'=>e=.returned (.tuple #[])∧(∃l',l'.Perm l∧RisesB nyName l'∧SlAt (fun b=>(v.ownBlock=some b∧base≤b)∧b<w'.heap.size) (NyAt w') 2 l' v)∧w.grownBy w' v.ownBlock:=by
 have hml:l.length≤maxLen:=by unfold maxLen; omega
 by_cases he:l=[]
 ·subst he
  obtain⟨a,cap,rfl⟩:∃a cap,v=.slice a 0 cap:=by
   obtain⟨_,⟨hv,_⟩|⟨g,cap,cur,hv,_⟩⟩:=h
   ·exact⟨_,_,hv⟩
   ·exact⟨_,_,hv⟩
  have hc:=AnyF.slices_SortFunc_none Tryd.sortNd a cap (.func (.func 6) #[] #[]) w
  change Calls Tryd.prog 5 _ _ _ at hc
  refine hc.mono ?_
  rintro e w' ⟨rfl,rfl⟩
  refine⟨rfl,⟨[],List.Perm.refl _,List.Pairwise.nil,a,cap,rfl,⟨by simp,by simp⟩,Or.inl rfl⟩,⟨rfl,rfl,rfl,Nat.le_refl _,fun _ _ _=>rfl⟩⟩
 ·have hpos:0<l.length:=List.length_pos_iff.2 he
  obtain⟨g,cap,rfl,hg,hgl⟩:=h.form hpos
  have hH:HoldsK encNy 2 w g 0 l.toArray:=owns_holds encNy 2 (fun _=>rfl) (by omega) h
  have hcap:l.length≤cap:=by
   obtain⟨_,⟨hv,_⟩|⟨g',cap',cur,hv,_,_,h1,_⟩⟩:=h
   ·cases hv
   ·injection hv with _ _ e3
    subst e3; exact h1
  have hsz:l.toArray.size=l.length:=by simp
  have eg:∀args w,(callFunc 6 args).run Tryd.prog w=.ok (.enter 6 args) w:=enters_of Tryd.func6 (by kernel_rfl) rfl
  have hcmp:CmpLays Tryd.prog 6 #[] encNy 2 (cmpN nyName) g 0 l.toArray.size w:=fun _ _ _ _ x y=>byName_nd x y _
  have hc:=AnyQ.slices_SortFunc Tryd.sortNd 2 Tryd.isAgg27 Tryd.sizeOf27 encNy (fun _=>rfl) (fun x v hv=>by simp[encNy] at hv; rcases hv with rfl|rfl <;> rfl) (cmpN nyName) (swo_cmpN nyName) 6 #[] g 0 cap l.toArray w eg hcmp hH hgl (by rw[hsz]; omega)
  change Calls Tryd.prog 5 _ _ _ at hc
  rw[hsz] at hc
  refine hc.mono ?_
  rintro e w' ⟨rfl,d',n,os,hp,hs,rfl⟩
  have hp':Sort.PermIn 0 l.toArray.size l.toArray d':=by rw[hsz]; exact hp
  have hs':Sort.SortedIn (ltOf (cmpN nyName)) 0 l.toArray.size d':=by rw[hsz]; exact hs
  obtain⟨hperm,hrise⟩:=sorted_rises nyName hp' hs' (by simpa using ha)
  have hlen:d'.toList.length=l.length:=by rw[hperm.length_eq]
  have hds:d'.size=l.toArray.size:=by rw[hsz,← hlen,Array.length_toList]
  have hH':=sortWorld_holds encNy 2 (m:=n) (os:=os) hH hgl hds
  have hbl:=sortWorld_grown encNy 2 (w:=w) (g:=g) (m:=n) (d:=d') (os:=os)
  refine⟨rfl,⟨d'.toList,by simpa using hperm,hrise,some ⟨g,0,none⟩,cap,by rw[hlen],⟨by rw[hlen]; exact hml,by rw[hlen]; exact hcap⟩,Or.inr ⟨g,0,rfl,⟨⟨rfl,hg⟩,Nat.lt_of_lt_of_le hgl ?_⟩,RowAt.mk fun i hi=>?_⟩⟩,hbl⟩
  ·simp[sortWorldK,grow,putRowK,putRow,mapBlock]
  ·have hi':i<d'.size:=by simpa using hi
   have g0:=(hH' (i * 2) (by rw[size_flatK]; omega)).1
   have g1:=(hH' (i * 2+1) (by rw[size_flatK]; omega)).1
   rw[get_flatK _ _ _ _ (by omega),show i * 2 / 2=i by omega,show i * 2 % 2=0 by omega] at g0
   rw[get_flatK _ _ _ _ (by omega),show (i * 2+1) / 2=i by omega,show (i * 2+1) % 2=1 by omega] at g1
   have e0:d'[i]! = d'.toList[i]:=by simp[getElem!_pos,hi']
   rw[e0] at g0 g1
   exact⟨by simpa [encNy] using g0,by simpa [encNy,nyVal,Nat.add_assoc] using g1⟩
end Go.Proofs.YtedpiamfpbdhoaaDoor
namespace Go.Proofs.YtedpiamfpbdhoaaDoor
open Go.RowKit
def insT (x:ByteArray):List ByteArray→List ByteArray
 |[]=>[x]
 |y::r=>if gtB y x=true then x::y::r else y::insT x r
def InT (x:ByteArray) (out tgt nxt:List ByteArray) (j:Nat) (done:Bool):Prop:=nxt++(if done=true then out.drop j else insT x (out.drop j))=tgt
theorem InT.len {x:ByteArray} {out tgt nxt:List ByteArray} {j:Nat} {done:Bool} (h:InT x out tgt nxt j done):nxt.length≤tgt.length:=by
 have:=congrArg List.length h
 rw[List.length_append] at this
 omega
theorem InT.on {x:ByteArray} {out tgt nxt:List ByteArray} {j:Nat} (h:InT x out tgt nxt j true) (hj:j<out.length):InT x out tgt (nxt++[out[j]]) (j+1) true:=by
 unfold InT at *
 rw[if_pos rfl] at *
 rw[List.append_assoc,List.singleton_append,← List.drop_eq_getElem_cons hj]
 exact h
theorem InT.keep {x:ByteArray} {out tgt nxt:List ByteArray} {j:Nat} (h:InT x out tgt nxt j false) (hj:j<out.length) (hg:gtB out[j] x=false):InT x out tgt (nxt++[out[j]]) (j+1) false:=by
 unfold InT at *
 rw[if_neg (by decide)] at *
 rw[List.drop_eq_getElem_cons hj,insT,if_neg (by rw[hg]; decide)] at h
 rw[List.append_assoc,List.singleton_append]
 exact h
theorem InT.put {x:ByteArray} {out tgt nxt:List ByteArray} {j:Nat} (h:InT x out tgt nxt j false) (hj:j<out.length) (hg:gtB out[j] x=true):InT x out tgt (nxt++[x]++[out[j]]) (j+1) true:=by
 unfold InT at *
 rw[if_neg (by decide)] at h
 rw[if_pos rfl]
 rw[List.drop_eq_getElem_cons hj,insT,if_pos hg] at h
 rw[List.append_assoc,List.append_assoc,List.singleton_append,List.singleton_append]
 exact h
theorem InT.last {x:ByteArray} {out tgt nxt:List ByteArray} {j:Nat} (h:InT x out tgt nxt j false) (hj:out.length≤j):nxt++[x]=tgt:=by
 unfold InT at h
 rw[if_neg (by decide),List.drop_eq_nil_of_le hj,insT] at h
 exact h
end Go.Proofs.YtedpiamfpbdhoaaDoor
namespace Go.Proofs.YtedpiamfpbdhoaaDoor
open Go.RowKit
theorem less_lt:∀(x y:List UInt8),Op.bytesLess x y=decide (x<y)
 |[],[]=>by simp[Op.bytesLess]
 |_::_,[]=>by simp[Op.bytesLess]
 |[],_::_=>by simp[Op.bytesLess]
 |a::x,b::y=>by
  rw[Op.bytesLess,less_lt x y]
  simp only[List.cons_lt_cons_iff]
  by_cases h1:a<b <;> by_cases h2:a=b <;> by_cases h3:x<y <;> simp[h1,h2,h3]
theorem le_less (x y:List UInt8):decide (x≤y)=!Op.bytesLess y x:=by
 rw[less_lt]
 by_cases h:y<x
 ·have:¬x≤y:=fun h'=>List.not_lt.2 h' h
  simp[h,this]
 ·have:x≤y:=List.not_lt.1 h
  simp[h,this]
def sortB (u:List (List UInt8)):List (List UInt8):=u.mergeSort fun x y=>decide (x≤y)
theorem sortB_perm (u:List (List UInt8)):(sortB u).Perm u:=List.mergeSort_perm _ _
theorem sortB_len (u:List (List UInt8)):(sortB u).length=u.length:=(sortB_perm u).length_eq
theorem sortB_rises (u:List (List UInt8)):(sortB u).Pairwise fun a b=>Op.bytesLess b a=false:=by
 have h:=List.pairwise_mergeSort (le:=fun x y:List UInt8=>decide (x≤y)) (fun a b c h1 h2=>by
  rw[le_less,Bool.not_eq_true'] at *
  exact less_trans h2 h1) (fun a b=>by
  rw[le_less,le_less]
  cases hb:Op.bytesLess b a with
  |false=>rfl
  |true=>rw[less_asymm hb]; rfl) u
 refine h.imp fun {a b} hab=>?_
 rw[le_less,Bool.not_eq_true'] at hab
 exact hab
theorem cup_inv {d:Array (List UInt8)} (hs:∀i j,i≤j→j<d.size→Op.bytesLess d[j]! d[i]! = false):∀m,m≤d.size→
  (Lib.compactUpTo d m).Pairwise (fun a b=>Op.bytesLess a b=true)∧(∀x∈Lib.compactUpTo d m,Op.bytesLess d[m - 1]! x=false)∧∀x,x∈Lib.compactUpTo d m↔∃j,j<m∧d[j]! = x
 |0,_=>by simp[Lib.compactUpTo]
 |m+1,hm=>by
  obtain⟨h1,h2,h3⟩:=cup_inv hs m (by omega)
  rw[Lib.compactUpTo_succ]
  by_cases hk:Lib.keeps d m=true
  ·rw[if_pos hk]
   have hk':m=0∨d[m]!≠d[m - 1]!:=by simpa [Lib.keeps] using hk
   refine⟨List.pairwise_append.2 ⟨h1,List.pairwise_singleton _ _,fun x hx y hy=>?_⟩,fun x hx=>?_,fun x=>?_⟩
   ·rw[List.mem_singleton.1 hy]
    have hx3:=(h3 x).1 hx
    have hx2:=h2 x hx
    rcases hk' with rfl|hne
    ·obtain⟨j,hj,_⟩:=hx3; omega
    ·have hle:=hs (m - 1) m (by omega) (by omega)
     cases hl:Op.bytesLess x d[m]! with
     |true=>rfl
     |false=>exact absurd (less_eq hle (less_trans hx2 hl)) hne
   ·rw[Nat.add_sub_cancel]
    rcases List.mem_append.1 hx with h|h
    ·obtain⟨j,hj,rfl⟩:=(h3 x).1 h
     exact hs j m (by omega) (by omega)
    ·rw[List.mem_singleton.1 h]; exact less_irrefl _
   ·rw[List.mem_append,h3,List.mem_singleton]
    constructor
    ·rintro (⟨j,hj,rfl⟩|rfl)
     ·exact⟨j,by omega,rfl⟩
     ·exact⟨m,by omega,rfl⟩
    ·rintro ⟨j,hj,rfl⟩
     rcases Nat.lt_or_ge j m with h|h
     ·exact Or.inl ⟨j,h,rfl⟩
     ·have:j=m:=by omega
      subst this
      exact Or.inr rfl
  ·rw[if_neg hk,List.append_nil]
   have hk':¬(m=0∨d[m]!≠d[m - 1]!):=by simpa [Lib.keeps] using hk
   have hm0:m≠0:=fun e=>hk' (Or.inl e)
   have he:d[m]! = d[m - 1]!:=Decidable.byContradiction fun e=>hk' (Or.inr e)
   refine⟨h1,fun x hx=>?_,fun x=>?_⟩
   ·rw[Nat.add_sub_cancel,he]; exact h2 x hx
   ·rw[h3]
    constructor
    ·rintro ⟨j,hj,rfl⟩
     exact⟨j,by omega,rfl⟩
    ·rintro ⟨j,hj,rfl⟩
     rcases Nat.lt_or_ge j m with h|h
     ·exact⟨j,h,rfl⟩
     ·have:j=m:=by omega
      subst this
      exact⟨j - 1,by omega,he.symm⟩
def usedB (u:List ByteArray):List (List UInt8):=Lib.compact (sortB (u.map fun s=>s.data.toList))
theorem usedB_is (u:List ByteArray):(usedB u).Pairwise (fun a b=>Op.bytesLess a b=true)∧∀x,x∈usedB u↔∃s∈u,s.data.toList=x:=by
 unfold usedB Lib.compact
 generalize hl:sortB (u.map fun s=>s.data.toList)=l
 have hr:l.Pairwise fun a b=>Op.bytesLess b a=false:=by rw[← hl]; exact sortB_rises _
 have hp:l.Perm (u.map fun s=>s.data.toList):=by rw[← hl]; exact sortB_perm _
 have hs:∀i j,i≤j→j<l.toArray.size→Op.bytesLess l.toArray[j]! l.toArray[i]! = false:=fun i j hij hj=>by
  have hj':j<l.length:=by simpa using hj
  have e1:l.toArray[j]! = l[j]:=by simp[hj']
  have e2:l.toArray[i]! = l[i]:=by simp[show i<l.length by omega]
  rw[e1,e2]
  rcases Nat.lt_or_ge i j with h|h
  ·exact List.pairwise_iff_getElem.1 hr i j (by omega) hj' h
  ·have:i=j:=by omega
   subst this
   exact less_irrefl _
 obtain⟨h1,_,h3⟩:=cup_inv hs l.length (by simp)
 refine⟨h1,fun x=>(h3 x).trans ?_⟩
 constructor
 ·rintro ⟨j,hj,rfl⟩
  have e1:l.toArray[j]! = l[j]:=by simp[hj]
  rw[e1]
  have:=hp.subset (List.getElem_mem hj)
  rw[List.mem_map] at this
  exact this
 ·rintro ⟨s,hs,rfl⟩
  have:s.data.toList∈l:=hp.symm.subset (List.mem_map.2 ⟨s,hs,rfl⟩)
  obtain⟨j,hj,e⟩:=List.getElem_of_mem this
  exact⟨j,hj,by simp[hj,e]⟩
def toB (x:List UInt8):ByteArray:=⟨x.toArray⟩
theorem data_toB (x:List UInt8):(toB x).data.toList=x:=by simp[toB]
end Go.Proofs.YtedpiamfpbdhoaaDoor
namespace Go.Proofs
open Go.Shelf
def Tryd.lays190_ren:Go.Shelf.Ren:=⟨fun|190=>10|125=>16|258=>25|128=>35|129=>36|302=>46|303=>47|304=>48|305=>49|306=>50|307=>51|308=>26|309=>52|310=>53|333=>65|329=>56|330=>57|334=>66|335=>67|336=>54|344=>70|n=>n,fun|31=>25|9=>9|3=>3|46=>46|0=>0|51=>68|53=>70|4=>4|183=>61|182=>60|131=>65|5=>5|218=>82|222=>86|228=>92|229=>93|n=>n,fun|n=>n⟩
theorem Tryd.lays190:Go.Proofs.Lays.n190 Tryd.prog Tryd.lays190_ren:={
 mixed:=by kernel_rfl
 f125:=Tryd.func16.trans (congrArg some (by kernel_rfl))
 f128:=Tryd.func35.trans (congrArg some (by kernel_rfl))
 f129:=Tryd.func36.trans (congrArg some (by kernel_rfl))
 f190:=Tryd.func10.trans (congrArg some (by kernel_rfl))
 f258:=Tryd.func25.trans (congrArg some (by kernel_rfl))
 f302:=Tryd.func46.trans (congrArg some (by kernel_rfl))
 f303:=Tryd.func47.trans (congrArg some (by kernel_rfl))
 f304:=Tryd.func48.trans (congrArg some (by kernel_rfl))
 f305:=Tryd.func49.trans (congrArg some (by kernel_rfl))
 f306:=Tryd.func50.trans (congrArg some (by kernel_rfl))
 f307:=Tryd.func51.trans (congrArg some (by kernel_rfl))
 f308:=Tryd.func26.trans (congrArg some (by kernel_rfl))
 f309:=Tryd.func52.trans (congrArg some (by kernel_rfl))
 f310:=Tryd.func53.trans (congrArg some (by kernel_rfl))
 f329:=Tryd.func56.trans (congrArg some (by kernel_rfl))
 f330:=Tryd.func57.trans (congrArg some (by kernel_rfl))
 f333:=Tryd.func65.trans (congrArg some (by kernel_rfl))
 f334:=Tryd.func66.trans (congrArg some (by kernel_rfl))
 f335:=Tryd.func67.trans (congrArg some (by kernel_rfl))
 f336:=Tryd.func54.trans (congrArg some (by kernel_rfl))
 f344:=Tryd.func70.trans (congrArg some (by kernel_rfl))
 t0:=Tryd.underlying0
 a0:=Tryd.isAgg0
 z0:=Tryd.sizeOf0
 v0:=Tryd.zeroValue0
 t3:=Tryd.underlying3
 a3:=Tryd.isAgg3
 z3:=Tryd.sizeOf3
 v3:=Tryd.zeroValue3
 t4:=Tryd.underlying4
 a4:=Tryd.isAgg4
 z4:=Tryd.sizeOf4
 v4:=Tryd.zeroValue4
 t5:=Tryd.underlying5
 a5:=Tryd.isAgg5
 z5:=Tryd.sizeOf5
 v5:=Tryd.zeroValue5
 t9:=Tryd.underlying9
 a9:=Tryd.isAgg9
 z9:=Tryd.sizeOf9
 v9:=Tryd.zeroValue9
 t31:=Tryd.underlying25
 a31:=Tryd.isAgg25
 z31:=Tryd.sizeOf25
 v31:=Tryd.zeroValue25
 t46:=Tryd.underlying46
 a46:=Tryd.isAgg46
 z46:=Tryd.sizeOf46
 v46:=Tryd.zeroValue46
 t51:=Tryd.underlying68
 a51:=Tryd.isAgg68
 z51:=Tryd.sizeOf68
 v51:=Tryd.zeroValue68
 t53:=Tryd.underlying70
 a53:=Tryd.isAgg70
 z53:=Tryd.sizeOf70
 v53:=Tryd.zeroValue70
 t131:=Tryd.underlying65
 a131:=Tryd.isAgg65
 z131:=Tryd.sizeOf65
 v131:=Tryd.zeroValue65
 t182:=Tryd.underlying60
 a182:=Tryd.isAgg60
 z182:=Tryd.sizeOf60
 v182:=Tryd.zeroValue60
 t183:=Tryd.underlying61
 a183:=Tryd.isAgg61
 z183:=Tryd.sizeOf61
 v183:=Tryd.zeroValue61
 t218:=Tryd.underlying82
 a218:=Tryd.isAgg82
 z218:=Tryd.sizeOf82
 v218:=Tryd.zeroValue82
 t222:=Tryd.underlying86
 a222:=Tryd.isAgg86
 z222:=Tryd.sizeOf86
 v222:=Tryd.zeroValue86
 t228:=Tryd.underlying92
 a228:=Tryd.isAgg92
 z228:=Tryd.sizeOf92
 v228:=Tryd.zeroValue92
 t229:=Tryd.underlying93
 a229:=Tryd.isAgg93
 z229:=Tryd.sizeOf93
 v229:=Tryd.zeroValue93 }
open Go.Sort Go.RowKit in
theorem Tryd.slices_Sort_string (blk off cap:Nat) (ss:List (List UInt8)) (w:World) (hH:Holds encStr w blk off ss.toArray) (hblk:blk<w.heap.size) (hsz:ss.length<4611686018427387904) :
  Calls Tryd.prog 10 #[.slice (some ⟨blk,off,none⟩) ss.length cap] w fun e w'=>
   e=.returned (.tuple #[])∧∃n os,w'=grow (putRow encStr (Sort.ahead w n) blk off (ss.mergeSort fun x y=>decide (x≤y)).toArray) os:=Any.slices_Sort_string Tryd.lays190 blk off cap ss w hH hblk hsz
def Tryd.lays194_ren:Go.Shelf.Ren:=⟨fun|194=>12|n=>n,fun|31=>25|9=>9|3=>3|4=>4|0=>0|n=>n,fun|n=>n⟩
theorem Tryd.lays194:Go.Proofs.Lays.n194 Tryd.prog Tryd.lays194_ren:={
 mixed:=by kernel_rfl
 f194:=Tryd.func12.trans (congrArg some (by kernel_rfl))
 t0:=Tryd.underlying0
 a0:=Tryd.isAgg0
 z0:=Tryd.sizeOf0
 v0:=Tryd.zeroValue0
 t3:=Tryd.underlying3
 a3:=Tryd.isAgg3
 z3:=Tryd.sizeOf3
 v3:=Tryd.zeroValue3
 t4:=Tryd.underlying4
 a4:=Tryd.isAgg4
 z4:=Tryd.sizeOf4
 v4:=Tryd.zeroValue4
 t9:=Tryd.underlying9
 a9:=Tryd.isAgg9
 z9:=Tryd.sizeOf9
 v9:=Tryd.zeroValue9
 t31:=Tryd.underlying25
 a31:=Tryd.isAgg25
 z31:=Tryd.sizeOf25
 v31:=Tryd.zeroValue25 }
open Go.RowKit Go.Lib Go.Sort in
theorem Tryd.slices_Compact_string (blk off cap:Nat) (zs:List (List UInt8)) (w:World) (hH:Holds encStr w blk off zs.toArray) (hsz:zs.length≤9223372036854775807) (hcap:zs.length≤cap) :
  Calls Tryd.prog 12 #[.slice (some ⟨blk,off,none⟩) zs.length cap] w fun e w'=>e=.returned (.slice (some ⟨blk,off,none⟩) (Lib.compact zs).length cap)∧∃q,w'=putRow encStr (Sort.ahead w q) blk off (Lib.compact zs++List.replicate (zs.length - (Lib.compact zs).length) []).toArray:=Any.slices_Compact_string Tryd.lays194 blk off cap zs w hH hsz hcap
open Go.RowKit Go.Lib Go.Sort in
theorem Tryd.slices_Compact_string_empty (a:Option Addr) (cap:Nat) (w:World) :
  Calls Tryd.prog 12 #[.slice a 0 cap] w fun e w'=>e=.returned (.slice a 0 cap)∧w'=w:=Any.slices_Compact_string_empty Tryd.lays194 a cap w
open Go.RowKit Go.Sort in
theorem Tryd.slices_Sort_string_none (p:Option Addr) (cap:Nat) (w:World) :
  Calls Tryd.prog 10 #[.slice p 0 cap] w fun e w'=>e=.returned (.tuple #[])∧w'=w:=Any.slices_Sort_string_none Tryd.lays190 p cap w
end Go.Proofs
namespace Go.Proofs.YtedpiamfpbdhoaaDoor
open Go.RowKit
open Go.Sort (grow putRow mapBlock onCells putCells Holds)
def datas (l:List ByteArray):List (List UInt8):=l.map fun s=>s.data.toList
theorem datas_toB (d:List (List UInt8)):datas (d.map toB)=d:=by
 unfold datas
 rw[List.map_map]
 conv=>rhs; rw[← List.map_id d]
 exact List.map_congr_left fun x _=>data_toB x
theorem datas_len (l:List ByteArray):(datas l).length=l.length:=List.length_map ..
theorem own_holds {w:World} {base g cap:Nat} {l:List ByteArray} (h:w.ownsRow base 9 1 (.slice (some ⟨g,0,none⟩) l.length cap) l.length (txVals l)):Holds encStr w g 0 (datas l).toArray:=by
 obtain⟨hx,⟨hv,_⟩|⟨g',cap',cur,hv,hg,hh,h1,h2,h3,h4⟩⟩:=h
 ·cases hv
 ·injection hv with e1 e2 e3
  injection e1 with e1
  injection e1 with e1
  subst e1 e3
  intro j hj
  have hj':j<l.length:=by simpa [datas] using hj
  have hf:(txVals l)[j]? = some (.string l[j]):=by simp[txVals,hj']
  rw[← h4,List.getElem?_take_of_lt (by omega)] at hf
  refine⟨?_,Lib.frozen_of_heap hh _⟩
  rw[cell_of_row w g (0+j) cur 9 (0,0) hh,Nat.zero_add]
  have e:encStr (datas l).toArray[j]! = .string l[j]:=by simp[datas,hj',encStr]
  rw[e]
  simpa using hf
theorem ownTx_put {w:World} {base g cap n k:Nat} {l:List ByteArray} {d:List (List UInt8)} {os:Array Obj} (h:w.ownsRow base 9 1 (.slice (some ⟨g,0,none⟩) l.length cap) l.length (txVals l)) (hd:d.length=l.length) (hk:k≤d.length) :
  (grow (putRow encStr (Go.Sort.ahead w n) g 0 d.toArray) os).ownsRow base 9 1 (.slice (some ⟨g,0,none⟩) k cap) k (txVals ((d.take k).map toB)):=by
 obtain⟨hx,⟨hv,_⟩|⟨g',cap',cur,hv,hg,hh,h1,h2,h3,h4⟩⟩:=h
 ·cases hv
 ·injection hv with e1 e2 e3
  injection e1 with e1
  injection e1 with e1
  subst e1 e3
  have hgl:g<w.heap.size:=by
   rcases Nat.lt_or_ge g w.heap.size with h|h
   ·exact h
   ·rw[Array.getElem?_eq_none h] at hh; cases hh
  refine⟨by simp[txVals,hk],Or.inr ⟨g,cap,putCells encStr 0 d.toArray cur,rfl,hg,?_,by omega,h2,by simp[putCells,h3],?_⟩⟩
  ·rw[Go.Sort.heap_grow_old _ _ (by simpa using hgl)]
   show (w.heap.modify g (onCells (putCells encStr 0 d.toArray)))[g]? = _
   rw[Array.getElem?_modify,if_pos rfl,hh]; rfl
  ·apply List.ext_getElem?
   intro j
   by_cases hj:j<k
   ·have hc:j<cur.size:=by omega
    rw[List.getElem?_take_of_lt (by omega)]
    simp[putCells,txVals,hc,hj,show j<d.length by omega,encStr,toB]
   ·rw[List.getElem?_eq_none (by rw[List.length_take]; omega),List.getElem?_eq_none (by simp[txVals]; omega)]
theorem put_grown {w:World} {g n:Nat} {d:Array (List UInt8)} {os:Array Obj}:w.grownBy (grow (putRow encStr (Go.Sort.ahead w n) g 0 d) os) (some g):=by
 refine⟨rfl,rfl,rfl,?_,fun j hj hjg=>?_⟩
 ·simp[grow,putRow,mapBlock]
 ·have hne:g≠j:=fun e=>hjg (by rw[e])
  simp[grow,putRow,mapBlock,Array.getElem?_append,hj,Array.getElem_modify,hne]
theorem sort_tx {w:World} {base:Nat} {v:Value} {l:List ByteArray} (h:w.ownsRow base 9 1 v l.length (txVals l)) (hl:l.length≤100) :
  Calls Tryd.prog 10 #[v] w fun e w'=>e=.returned (.tuple #[])∧w'.ownsRow base 9 1 v l.length (txVals ((sortB (datas l)).map toB))∧w.grownBy w' v.ownBlock:=by
 by_cases he:l=[]
 ·subst he
  obtain⟨a,cap,rfl⟩:∃a cap,v=.slice a 0 cap:=by
   obtain⟨_,⟨hv,_⟩|⟨g,cap,cur,hv,_⟩⟩:=h
   ·exact⟨_,_,hv⟩
   ·exact⟨_,_,hv⟩
  refine (Tryd.slices_Sort_string_none a cap w).mono ?_
  rintro e w' ⟨rfl,rfl⟩
  exact⟨rfl,by simpa [sortB,datas] using h,⟨rfl,rfl,rfl,Nat.le_refl _,fun _ _ _=>rfl⟩⟩
 ·obtain⟨g,cap,rfl,hg,hgl⟩:=h.form (List.length_pos_iff.2 he)
  have hc:=Tryd.slices_Sort_string g 0 cap (datas l) w (own_holds h) hgl (by rw[datas_len]; omega)
  rw[datas_len] at hc
  refine hc.mono ?_
  rintro e w' ⟨rfl,n,os,rfl⟩
  have hs:(sortB (datas l)).length=l.length:=by rw[sortB_len,datas_len]
  refine⟨rfl,?_,put_grown⟩
  have:=ownTx_put (n:=n) (os:=os) (k:=l.length) h hs (by omega)
  rwa [List.take_of_length_le (by omega)] at this
theorem compact_tx {w:World} {base:Nat} {v:Value} {l:List ByteArray} (h:w.ownsRow base 9 1 v l.length (txVals l)) (hl:l.length≤100) (hs:∀x∈Lib.compact (datas l),x.length≤100) :
  Calls Tryd.prog 12 #[v] w fun e w'=>∃u,e=.returned u∧SlAt (fun b=>base≤b∧b<w'.heap.size) (StrAt w') 1 ((Lib.compact (datas l)).map toB) u∧w.grownBy w' v.ownBlock:=by
 have hcl:(Lib.compact (datas l)).length≤l.length:=by rw[← datas_len l]; exact Lib.compact_length_le _
 by_cases he:l=[]
 ·subst he
  obtain⟨a,cap,rfl⟩:∃a cap,v=.slice a 0 cap:=by
   obtain⟨_,⟨hv,_⟩|⟨g,cap,cur,hv,_⟩⟩:=h
   ·exact⟨_,_,hv⟩
   ·exact⟨_,_,hv⟩
  refine (Tryd.slices_Compact_string_empty a cap w).mono ?_
  rintro e w' ⟨rfl,rfl⟩
  exact⟨_,rfl,⟨a,cap,rfl,⟨Nat.zero_le _,Nat.zero_le _⟩,Or.inl rfl⟩,⟨rfl,rfl,rfl,Nat.le_refl _,fun _ _ _=>rfl⟩⟩
 ·obtain⟨g,cap,rfl,hg,hgl⟩:=h.form (List.length_pos_iff.2 he)
  have hcap:l.length≤cap:=by
   obtain⟨_,⟨hv,_⟩|⟨g',cap',cur,hv,_,_,h1,_⟩⟩:=h
   ·cases hv
   ·injection hv with _ _ e3
    subst e3; exact h1
  have hc:=Tryd.slices_Compact_string g 0 cap (datas l) w (own_holds h) (by rw[datas_len]; omega) (by rw[datas_len]; exact hcap)
  rw[datas_len] at hc
  refine hc.mono ?_
  rintro e w' ⟨rfl,q,rfl⟩
  generalize hcd:Lib.compact (datas l)=cd at *
  have ho:=ownTx_put (n:=q) (os:=#[]) (k:=cd.length) (d:=cd++List.replicate (l.length - cd.length) []) h (by simp; omega) (by simp)
  rw[List.take_left' rfl,Go.Sort.grow_empty] at ho
  have hg2:=put_grown (w:=w) (g:=g) (n:=q) (d:=(cd++List.replicate (l.length - cd.length) []).toArray) (os:=#[])
  rw[Go.Sort.grow_empty] at hg2
  refine⟨_,rfl,?_,hg2⟩
  have hm:(cd.map toB).length=cd.length:=List.length_map ..
  rw[← hm] at ho ⊢
  refine tx_row ho (by unfold maxLen; omega) (fun t ht=>?_)
  obtain⟨x,hx,rfl⟩:=List.mem_map.1 ht
  have:=hs x hx
  show (toB x).size≤_
  have e:(toB x).size=x.length:=by simp[toB,ByteArray.size]
  rw[e]; unfold maxLen; omega
end Go.Proofs.YtedpiamfpbdhoaaDoor
namespace Go.Proofs.YtedpiamfpbdhoaaDoor
open Go.RowKit
structure Rw where
 kind:Int
 a:Int
 b:Int
 c:Int
instance:Inhabited Rw:=⟨⟨0,0,0,0⟩⟩
def wfI (n:Int):Prop:=(Lit.int .i64 n).wf=true
def RwAt (w:World) (r:Rw) (b o:Nat):Prop:=
 (w.cell? ⟨b,o,none⟩=some (.int .i64 r.kind)∧w.cell? ⟨b,o+1,none⟩=some (.int .i64 r.a)∧w.cell? ⟨b,o+2,none⟩=some (.int .i64 r.b)∧w.cell? ⟨b,o+3,none⟩=some (.int .i64 r.c))∧wfI r.kind∧wfI r.a∧wfI r.b∧wfI r.c
theorem RwAt.keep {S S':Nat→Prop} {w w':World} (hk:Keeps S S' w w') {r:Rw} {b o:Nat} (hb:S b) (h:RwAt w r b o):RwAt w' r b o:=by
 obtain⟨⟨h0,h1,h2,h3⟩,h4⟩:=h
 exact⟨⟨by rwa [hk.cell hb],by rwa [hk.cell hb],by rwa [hk.cell hb],by rwa [hk.cell hb]⟩,h4⟩
theorem picked_any (n:Int) (hn:wfI n) (m:Int) (h0:0<m) (h1:m≤1000000) (w:World) :
  Calls Tryd.prog 14 #[.int .i64 n,.int .i64 m] w fun e w'=>∃k:Nat,e=.returned (.int .i64 k)∧(k:Int)<m∧w=w':=by
 have hx:-9223372036854775808≤n∧n≤9223372036854775807:=by simpa [wfI,Lit.wf,IntKind.min,IntKind.max,IntKind.signed,IntKind.bits] using hn
 obtain⟨hx0,hx1⟩:=hx
 clear hn
 by_cases hneg:n<0
 ·have e:-((n+1).tmod m)=(((-(n+1)) % m).toNat:Int):=by
   rw[← Int.neg_tmod,Int.tmod_eq_emod_of_nonneg (by omega),Int.toNat_of_nonneg (Int.emod_nonneg _ (by omega))]
  have hk:(((-(n+1)) % m).toNat:Int)<m:=by
   rw[Int.toNat_of_nonneg (Int.emod_nonneg _ (by omega))]
   exact Int.emod_lt_of_pos _ h0
  have HE:=veil e
  have HK:=veil hk
  clear e hk
  go_enter Tryd.func14,Tryd.ntmps14
  go_wp2
  go_ret
  exact⟨_,by rw[← HE.out]; rfl,HK.out,rfl⟩
 ·have hk:((n % m).toNat:Int)<m:=by
   rw[Int.toNat_of_nonneg (Int.emod_nonneg _ (by omega))]
   exact Int.emod_lt_of_pos _ h0
  have e:n.tmod m=((n % m).toNat:Int):=by
   rw[Int.tmod_eq_emod_of_nonneg (by omega),Int.toNat_of_nonneg (Int.emod_nonneg _ (by omega))]
  have e':n % m=((n % m).toNat:Int):=by
   rw[Int.toNat_of_nonneg (Int.emod_nonneg _ (by omega))]
  have HE:=veil e
  have HE':=veil e'
  have HK:=veil hk
  clear e e' hk
  go_enter Tryd.func14,Tryd.ntmps14
  go_wp2
  go_ret
  exact⟨_,by first|(rw[← HE.out]; rfl)|(rw[← HE'.out]; rfl),HK.out,rfl⟩
def NamesIn (w:World):Prop:=0<w.heap.size∧∀j,j<6→∃s:ByteArray,w.cell? ⟨0,j,none⟩=some (.string s)∧identOk s=true∧s.size≤8
theorem NamesIn.keep {w w':World} (h:NamesIn w) (hb:Below w.heap.size w w'):NamesIn w':=
 ⟨Nat.lt_of_lt_of_le h.1 hb.size,fun j hj=>by
  obtain⟨s,h1,h2⟩:=h.2 j hj
  exact⟨s,(hb.cell (p:=⟨0,j,none⟩) h.1).trans h1,h2⟩⟩
theorem name_raw (n:Int) (hn:wfI n) (w:World) (hw:NamesIn w):Calls Tryd.prog 4 #[.int .i64 n] w fun e w'=>∃s:ByteArray,e=.returned (.string s)∧identOk s=true∧s.size≤8∧w=w':=by
 have HW:=veil hw
 clear hw
 go_enter Tryd.func4,Tryd.ntmps4
 go_wp2_with fail
 refine (picked_any n hn 6 (by omega) (by omega) w).mono ?_
 rintro e w1 ⟨k,rfl,hk,rfl⟩
 obtain⟨s,h1,h2,h3⟩:=HW.out.2 k (by omega)
 have HI:=veil h2
 clear h2
 go_wp2_with fail
 go_ret
 exact⟨s,rfl,HI.out,h3,rfl⟩
end Go.Proofs.YtedpiamfpbdhoaaDoor
namespace Go.Proofs.YtedpiamfpbdhoaaDoor
open Go.RowKit
def opsUse:Array Oper:=#[{ dst:=some 32,op:=Op.fieldAddr 27 (Operand.tmp 6) 1,type:=0,pos:="keep.go:195",after:=#[],guard:=none },{ dst:=some 33,op:=Op.load 25 (Operand.tmp 32),type:=25,pos:="keep.go:195",after:=#[{ on:=0,ground:=Ground.data }],guard:=none },{ dst:=some 34,op:=Op.move (Operand.tmp 0),type:=22,pos:="keep.go:195",after:=#[],guard:=none },{ dst:=some 35,op:=Op.move (Operand.tmp 7),type:=3,pos:="keep.go:195",after:=#[],guard:=none },{ dst:=some 36,op:=Op.indexAddr 22 (Operand.tmp 34) (Operand.tmp 35),type:=0,pos:="keep.go:195",after:=#[{ on:=2,ground:=Ground.data },{ on:=3,ground:=Ground.data }],guard:=none },{ dst:=some 37,op:=Op.fieldAddr 30 (Operand.tmp 36) 1,type:=0,pos:="keep.go:195",after:=#[{ on:=4,ground:=Ground.data }],guard:=none },{ dst:=some 38,op:=Op.load 3 (Operand.tmp 37),type:=3,pos:="keep.go:195",after:=#[{ on:=5,ground:=Ground.data }],guard:=none },{ dst:=some 39,op:=Op.call { callee:=Callee.value (Operand.func 4),args:=#[Operand.tmp 38],argTypes:=#[3] },type:=9,pos:="keep.go:195",after:=#[{ on:=6,ground:=Ground.data }],guard:=none },{ dst:=some 40,op:=Op.buildSlice 25 1 #[(0,Operand.tmp 39)],type:=25,pos:="keep.go:195",after:=#[{ on:=7,ground:=Ground.data }],guard:=none },{ dst:=some 41,op:=Op.call { callee:=Callee.builtin Builtin.append,args:=#[Operand.tmp 33,Operand.tmp 40],argTypes:=#[25,25] },type:=25,pos:="keep.go:195",after:=#[{ on:=1,ground:=Ground.data },{ on:=8,ground:=Ground.data },{ on:=7,ground:=Ground.chain }],guard:=none },{ dst:=some 42,op:=Op.fieldAddr 27 (Operand.tmp 6) 1,type:=0,pos:="keep.go:195",after:=#[{ on:=0,ground:=Ground.phase },{ on:=1,ground:=Ground.phase },{ on:=2,ground:=Ground.phase },{ on:=3,ground:=Ground.phase },{ on:=4,ground:=Ground.phase },{ on:=5,ground:=Ground.phase },{ on:=6,ground:=Ground.phase },{ on:=7,ground:=Ground.phase },{ on:=8,ground:=Ground.phase },{ on:=9,ground:=Ground.phase }],guard:=none },{ dst:=none,op:=Op.store 25 (Operand.tmp 42) (Operand.tmp 41),type:=0,pos:="keep.go:195",after:=#[{ on:=10,ground:=Ground.data },{ on:=9,ground:=Ground.data },{ on:=9,ground:=Ground.chain },{ on:=0,ground:=Ground.phase },{ on:=1,ground:=Ground.phase },{ on:=2,ground:=Ground.phase },{ on:=3,ground:=Ground.phase },{ on:=4,ground:=Ground.phase },{ on:=5,ground:=Ground.phase },{ on:=6,ground:=Ground.phase },{ on:=7,ground:=Ground.phase },{ on:=8,ground:=Ground.phase },{ on:=9,ground:=Ground.phase }],guard:=none }]
structure UseAt (base B:Nat) (nm:ByteArray) (v:Value) (us:List ByteArray) (W:World):Prop where
 box:W.heap[B]? = some (.cells #[.string nm,v] 27 (0,0))
 own:W.ownsRow base 9 1 v us.length (txVals us)
 low:B<base
 top:base≤W.heap.size
set_option maxHeartbeats 2000000 in
theorem use_region (t1 t2 t3 t4 t5 t8 t9 t10 t11 t12 t13 t14 t15 t16 t17 t18 t19 t20 t21 t22 t23 t24 t25 t26 t27 t28 t29 t30 t31 t32 t33 t34 t35 t36 t37 t38 t39 t40 t41 t42 t43 t44 t45 t46 t47 t48 t49 t50 t51 t52 t53 t54 t55 t56 t57 t58 t59 t60 t61 t62 t63 t64 t65 t66 t67 t68 t69 t70 t71 t72 t73 t74 t75 t76 t77 t78 t79 t80 t81 t82 t83 t84 t85 t86 t87 t88 t89 t90 t91 t92 t93 t94 t95 t96 t97 t98 t99 t100 t101 t102 t103 t104 t105 t106 t107 t108 t109 t110 t111:Value) (lb lo ln lc q:Nat) (hq:q<ln) (B base:Nat) (nm:ByteArray) (v:Value) (us:List ByteArray) (hl:us.length≤4398046511104) (a:Int) (ha:wfI a) (W:World) (hat:UseAt base B nm v us W) (hr:W.cell? ⟨lb,lo+q * 4+1,none⟩=some (.int .i64 a)) (hlb:lb<B) (hnm:NamesIn W) :
  Code.wp Tryd.prog (Code.region 9 opsUse true) (Normal fun a w=>∃v32 v33 v34 v35 v36 v37 v38 v39 v40 v41 v42 s v',a={ tmps:=#[(.slice (some ⟨lb,lo,none⟩) ln lc),t1,t2,t3,t4,t5,(.pointer (some ⟨B,0,none⟩)),(.int .i64 q),t8,t9,t10,t11,t12,t13,t14,t15,t16,t17,t18,t19,t20,t21,t22,t23,t24,t25,t26,t27,t28,t29,t30,t31,v32,v33,v34,v35,v36,v37,v38,v39,v40,v41,v42,t43,t44,t45,t46,t47,t48,t49,t50,t51,t52,t53,t54,t55,t56,t57,t58,t59,t60,t61,t62,t63,t64,t65,t66,t67,t68,t69,t70,t71,t72,t73,t74,t75,t76,t77,t78,t79,t80,t81,t82,t83,t84,t85,t86,t87,t88,t89,t90,t91,t92,t93,t94,t95,t96,t97,t98,t99,t100,t101,t102,t103,t104,t105,t106,t107,t108,t109,t110,t111],defers:=[] }∧(identOk s=true∧s.size≤8)∧UseAt base B nm v' (us++[s]) w∧Below B W w) { tmps:=#[(.slice (some ⟨lb,lo,none⟩) ln lc),t1,t2,t3,t4,t5,(.pointer (some ⟨B,0,none⟩)),(.int .i64 q),t8,t9,t10,t11,t12,t13,t14,t15,t16,t17,t18,t19,t20,t21,t22,t23,t24,t25,t26,t27,t28,t29,t30,t31,t32,t33,t34,t35,t36,t37,t38,t39,t40,t41,t42,t43,t44,t45,t46,t47,t48,t49,t50,t51,t52,t53,t54,t55,t56,t57,t58,t59,t60,t61,t62,t63,t64,t65,t66,t67,t68,t69,t70,t71,t72,t73,t74,t75,t76,t77,t78,t79,t80,t81,t82,t83,t84,t85,t86,t87,t88,t89,t90,t91,t92,t93,t94,t95,t96,t97,t98,t99,t100,t101,t102,t103,t104,t105,t106,t107,t108,t109,t110,t111],defers:=[] } W:=by
 have HN:Hid (∀w:World,NamesIn w→Calls Tryd.prog 4 #[.int .i64 a] w fun e w'=>∃s:ByteArray,e=.returned (.string s)∧identOk s=true∧s.size≤8∧w=w'):=fun w h=>name_raw a ha w h
 have HNm:=veil hnm
 have HAt:=veil hat
 have hBl:=hat.low
 have hBt:=hat.top
 have HS0:Hid (W.drew.cell? ⟨lb,lo+q * 4+1,none⟩=some (.int .i64 a)):=hr
 have hc0:W.drew.cell? ⟨B,1,none⟩=some v:=by
  show W.cell? _=_
  rw[cell_of_row _ _ _ _ _ _ hat.box]; rfl
 have hq':(q:Int)<(ln:Int):=by omega
 have hq0:(0:Int)≤(q:Int):=by omega
 obtain⟨i0,hi0,hz0,hz1,hz2⟩:=info_parts str_info
 have HI0:=veil hi0
 have HZ0:=veil hz0
 have HZ1:=veil hz1
 have HZ2:=veil hz2
 clear hat hi0 hz0 hz1 hz2 hr hnm ha
 unfold opsUse
 refine wp_region_held_drew (S:=fun w'=>w'.cell? ⟨lb,lo+q * 4+1,none⟩=some (.int .i64 a)) (by kernel_rfl) HS0.out (fun hHeld=>?_)
 clear hHeld
 refine any_take 0 rfl rfl (by kernel_rfl) (by kernel_rfl) (by kernel_rfl) (fun _ _ _ h=>h) (v:=.pointer (some ⟨B,1,none⟩)) (Or.inl ⟨by rfl,fun w hw=>by go_simp⟩) HS0.out ?_
 refine any_take 2 rfl rfl (by kernel_rfl) (by kernel_rfl) (by kernel_rfl) (fun _ _ _ h=>h) (v:=.slice (some ⟨lb,lo,none⟩) ln lc) (Or.inl ⟨by rfl,fun w hw=>by go_simp⟩) HS0.out ?_
 refine any_take 3 rfl rfl (by kernel_rfl) (by kernel_rfl) (by kernel_rfl) (fun _ _ _ h=>h) (v:=.int .i64 q) (Or.inl ⟨by rfl,fun w hw=>by go_simp⟩) HS0.out ?_
 refine any_take 4 rfl rfl (by kernel_rfl) (by kernel_rfl) (by kernel_rfl) (fun _ _ _ h=>h) (v:=.pointer (some ⟨lb,lo+q * 4,none⟩)) (Or.inl ⟨by rfl,fun w hw=>by go_simp⟩) HS0.out ?_
 refine any_take 5 rfl rfl (by kernel_rfl) (by kernel_rfl) (by kernel_rfl) (fun _ _ _ h=>h) (v:=.pointer (some ⟨lb,lo+q * 4+1,none⟩)) (Or.inl ⟨by rfl,fun w hw=>by go_simp⟩) HS0.out ?_
 refine any_take 6 rfl rfl (by kernel_rfl) (by kernel_rfl) (by kernel_rfl) (fun _ _ _ h=>h) (v:=.int .i64 a) (Or.inl ⟨by rfl,fun w hw=>by go_simp⟩) HS0.out ?_
 refine any_two 1 7 (by kernel_rfl) rfl rfl rfl rfl (fun K hK=>?_) (fun K hK=>?_)
 ·have HK:=veil hK
  clear hK
  go_simp
  refine HK.out _ _ HS0.out ?_
  clear HK K
  refine any_one 7 (by kernel_rfl) rfl rfl (fun K hK=>?_)
  have HK:=veil hK
  clear hK
  go_simp
  refine (HN.out _ (HNm.out.keep ((Below.refl _ _).drew))).mono ?_
  rintro e wq ⟨s,rfl,hsI,hs8,rfl⟩
  have HsI:=veil hsI
  have HSb:Hid ((W.alloc (.cells #[.string s] 9)).drew.cell? ⟨lb,lo+q * 4+1,none⟩=some (.int .i64 a)):=by
   show (W.alloc _).cell? _=_
   rw[World.cell?_alloc_old _ _ _ (by show lb≠_; omega)]; exact HS0.out
  have hcb:(W.alloc (.cells #[.string s] 9)).drew.cell? ⟨B,1,none⟩=some v:=by
   show (W.alloc _).cell? _=_
   rw[World.cell?_alloc_old _ _ _ (by show B≠_; omega)]; exact hc0
  have HHs:Hid ((W.alloc (.cells #[.string s] 9)).drew.heap.size=W.heap.size+1):=by show (W.alloc _).heap.size=_; simp
  have HOwn:Hid ((W.alloc (.cells #[.string s] 9)).drew.ownsRow base 9 1 v us.length (txVals us)):=(HAt.out.own.alloc _).drew
  have HB1:Hid (Below B W (W.alloc (.cells #[.string s] 9)).drew):=((Below.refl _ _).alloc (by omega) _).drew
  have HNews:Hid (∀j u',([.string s]:List Value)[j]? = some u'→(W.alloc (.cells #[.string s] 9)).drew.cell? ((⟨W.heap.size,0,none⟩:Addr).add j)=some u'):=
   World.news_of_block (cs:=#[.string s]) (t:=9) (fr:=(0,0)) (heap_alloc_new W _)
  clear hsI
  refine HK.out _ _ HS0.out ?_
  clear HK K
  refine any_one 8 (by kernel_rfl) rfl rfl (fun K hK=>?_)
  have HK:=veil hK
  clear hK
  go_simp
  refine HK.out _ _ HSb.out ?_
  clear HK K
  refine any_one 9 (by kernel_rfl) rfl rfl (fun K hK=>?_)
  refine wp_append_lies _ _ _ _ rfl base 9 i0 _ 1 16 Tryd.underlying25 HI0.out HZ0.out HZ1.out HZ2.out rfl (by omega) v us.length (txVals us) rfl HOwn.out ⟨W.heap.size,0,none⟩ 1 1 [.string s] rfl rfl HNews.out (tx_one _) (by omega) (by unfold maxLen; omega) (by omega) (by rw[HHs.out]; omega) _ rfl (fun g cap w1 hown1 hgrow hat1 hlt=>?_)
  have hfar:∀k,k<base→some k≠v.ownBlock:=fun k hk h=>by have:=ownsTx_at HOwn.out k h.symm; omega
  have hb1:w1.heap[B]? = some (.cells #[.string nm,v] 27 (0,0)):=(hgrow.block B (by rw[HHs.out]; omega) (hfar B hBl)).trans ((((Below.refl (B+1) W).alloc (by omega) (.cells #[.string s] 9)).drew.block B (by omega)).trans HAt.out.box)
  have hcB:w1.cell? ⟨B,1,none⟩=some v:=by rw[cell_of_row w1 B 1 _ _ _ hb1]; rfl
  have hfB:w1.frozen? ⟨B,1,none⟩=false:=Lib.frozen_of_heap hb1 1
  have HS3:Hid (w1.cell? ⟨lb,lo+q * 4+1,none⟩=some (.int .i64 a)):=(hgrow.cell_far ⟨lb,lo+q * 4+1,none⟩ (by rw[HHs.out]; show lb<_; omega) (hfar lb (by omega))).trans HSb.out
  have HBw:Hid (Below B W w1):=HB1.out.grown hgrow (by rw[HHs.out]; omega) (fun k hk=>by have:=ownsTx_at HOwn.out k hk; omega)
  have HU:Hid (UseAt base B nm (.slice (some ⟨g,0,none⟩) (us.length+1) cap) (us++[s]) (w1.setCell ⟨B,1,none⟩ (.slice (some ⟨g,0,none⟩) (us.length+1) cap))):=by
   refine⟨by rw[block_set hb1]; rfl,?_,hBl,?_⟩
   ·have:=ownsRow_setCell_below hown1 (a:=⟨B,1,none⟩) hBl (.slice (some ⟨g,0,none⟩) (us.length+1) cap)
    rw[tx_snoc,List.length_append]; exact this
   ·have:=hgrow.size
    rw[HHs.out] at this
    simp[World.setCell]; omega
  refine hK _ _ HS3.out ?_
  clear hK K hgrow hown1 hb1
  refine any_take 10 rfl rfl (by kernel_rfl) (by kernel_rfl) (by kernel_rfl) (fun _ _ _ h=>h) (v:=.pointer (some ⟨B,1,none⟩)) (Or.inl ⟨by rfl,fun w hw=>by go_simp⟩) HS3.out ?_
  refine any_one 11 (by kernel_rfl) rfl rfl (fun K hK=>?_)
  have HK:=veil hK
  clear hK
  go_simp
  refine HK.out _ _ ?_ (wpAnyH_done (by kernel_rfl) ⟨_,_,_,_,_,_,_,_,_,_,_,s,_,rfl,⟨HsI.out,hs8⟩,HU.out,HBw.out.setCell (Nat.le_refl _) _⟩ _)
  rw[World.cell?_setCell_other _ _ _ _ (by intro h; injection h with h _ _; omega)]
  exact HS3.out
 ·have HK:=veil hK
  clear hK
  go_simp
  refine (HN.out _ (HNm.out.keep ((Below.refl _ _).drew))).mono ?_
  rintro e wq ⟨s,rfl,hsI,hs8,rfl⟩
  have HsI:=veil hsI
  have HSb:Hid ((W.alloc (.cells #[.string s] 9)).drew.cell? ⟨lb,lo+q * 4+1,none⟩=some (.int .i64 a)):=by
   show (W.alloc _).cell? _=_
   rw[World.cell?_alloc_old _ _ _ (by show lb≠_; omega)]; exact HS0.out
  have hcb:(W.alloc (.cells #[.string s] 9)).drew.cell? ⟨B,1,none⟩=some v:=by
   show (W.alloc _).cell? _=_
   rw[World.cell?_alloc_old _ _ _ (by show B≠_; omega)]; exact hc0
  have HHs:Hid ((W.alloc (.cells #[.string s] 9)).drew.heap.size=W.heap.size+1):=by show (W.alloc _).heap.size=_; simp
  have HOwn:Hid ((W.alloc (.cells #[.string s] 9)).drew.ownsRow base 9 1 v us.length (txVals us)):=(HAt.out.own.alloc _).drew
  have HB1:Hid (Below B W (W.alloc (.cells #[.string s] 9)).drew):=((Below.refl _ _).alloc (by omega) _).drew
  have HNews:Hid (∀j u',([.string s]:List Value)[j]? = some u'→(W.alloc (.cells #[.string s] 9)).drew.cell? ((⟨W.heap.size,0,none⟩:Addr).add j)=some u'):=
   World.news_of_block (cs:=#[.string s]) (t:=9) (fr:=(0,0)) (heap_alloc_new W _)
  clear hsI
  refine HK.out _ _ HS0.out ?_
  clear HK K
  refine any_two 1 8 (by kernel_rfl) rfl rfl rfl rfl (fun K hK=>?_) (fun K hK=>?_)
  ·have HK:=veil hK
   clear hK
   go_simp
   refine HK.out _ _ HS0.out ?_
   clear HK K
   refine any_one 8 (by kernel_rfl) rfl rfl (fun K hK=>?_)
   have HK:=veil hK
   clear hK
   go_simp
   refine HK.out _ _ HSb.out ?_
   clear HK K
   refine any_one 9 (by kernel_rfl) rfl rfl (fun K hK=>?_)
   refine wp_append_lies _ _ _ _ rfl base 9 i0 _ 1 16 Tryd.underlying25 HI0.out HZ0.out HZ1.out HZ2.out rfl (by omega) v us.length (txVals us) rfl HOwn.out ⟨W.heap.size,0,none⟩ 1 1 [.string s] rfl rfl HNews.out (tx_one _) (by omega) (by unfold maxLen; omega) (by omega) (by rw[HHs.out]; omega) _ rfl (fun g cap w1 hown1 hgrow hat1 hlt=>?_)
   have hfar:∀k,k<base→some k≠v.ownBlock:=fun k hk h=>by have:=ownsTx_at HOwn.out k h.symm; omega
   have hb1:w1.heap[B]? = some (.cells #[.string nm,v] 27 (0,0)):=(hgrow.block B (by rw[HHs.out]; omega) (hfar B hBl)).trans ((((Below.refl (B+1) W).alloc (by omega) (.cells #[.string s] 9)).drew.block B (by omega)).trans HAt.out.box)
   have hcB:w1.cell? ⟨B,1,none⟩=some v:=by rw[cell_of_row w1 B 1 _ _ _ hb1]; rfl
   have hfB:w1.frozen? ⟨B,1,none⟩=false:=Lib.frozen_of_heap hb1 1
   have HS3:Hid (w1.cell? ⟨lb,lo+q * 4+1,none⟩=some (.int .i64 a)):=(hgrow.cell_far ⟨lb,lo+q * 4+1,none⟩ (by rw[HHs.out]; show lb<_; omega) (hfar lb (by omega))).trans HSb.out
   have HBw:Hid (Below B W w1):=HB1.out.grown hgrow (by rw[HHs.out]; omega) (fun k hk=>by have:=ownsTx_at HOwn.out k hk; omega)
   have HU:Hid (UseAt base B nm (.slice (some ⟨g,0,none⟩) (us.length+1) cap) (us++[s]) (w1.setCell ⟨B,1,none⟩ (.slice (some ⟨g,0,none⟩) (us.length+1) cap))):=by
    refine⟨by rw[block_set hb1]; rfl,?_,hBl,?_⟩
    ·have:=ownsRow_setCell_below hown1 (a:=⟨B,1,none⟩) hBl (.slice (some ⟨g,0,none⟩) (us.length+1) cap)
     rw[tx_snoc,List.length_append]; exact this
    ·have:=hgrow.size
     rw[HHs.out] at this
     simp[World.setCell]; omega
   refine hK _ _ HS3.out ?_
   clear hK K hgrow hown1 hb1
   refine any_take 10 rfl rfl (by kernel_rfl) (by kernel_rfl) (by kernel_rfl) (fun _ _ _ h=>h) (v:=.pointer (some ⟨B,1,none⟩)) (Or.inl ⟨by rfl,fun w hw=>by go_simp⟩) HS3.out ?_
   refine any_one 11 (by kernel_rfl) rfl rfl (fun K hK=>?_)
   have HK:=veil hK
   clear hK
   go_simp
   refine HK.out _ _ ?_ (wpAnyH_done (by kernel_rfl) ⟨_,_,_,_,_,_,_,_,_,_,_,s,_,rfl,⟨HsI.out,hs8⟩,HU.out,HBw.out.setCell (Nat.le_refl _) _⟩ _)
   rw[World.cell?_setCell_other _ _ _ _ (by intro h; injection h with h _ _; omega)]
   exact HS3.out
  ·have HK:=veil hK
   clear hK
   go_simp
   refine HK.out _ _ HSb.out ?_
   clear HK K
   refine any_one 1 (by kernel_rfl) rfl rfl (fun K hK=>?_)
   have HK:=veil hK
   clear hK
   go_simp
   refine HK.out _ _ HSb.out ?_
   clear HK K
   refine any_one 9 (by kernel_rfl) rfl rfl (fun K hK=>?_)
   refine wp_append_lies _ _ _ _ rfl base 9 i0 _ 1 16 Tryd.underlying25 HI0.out HZ0.out HZ1.out HZ2.out rfl (by omega) v us.length (txVals us) rfl HOwn.out ⟨W.heap.size,0,none⟩ 1 1 [.string s] rfl rfl HNews.out (tx_one _) (by omega) (by unfold maxLen; omega) (by omega) (by rw[HHs.out]; omega) _ rfl (fun g cap w1 hown1 hgrow hat1 hlt=>?_)
   have hfar:∀k,k<base→some k≠v.ownBlock:=fun k hk h=>by have:=ownsTx_at HOwn.out k h.symm; omega
   have hb1:w1.heap[B]? = some (.cells #[.string nm,v] 27 (0,0)):=(hgrow.block B (by rw[HHs.out]; omega) (hfar B hBl)).trans ((((Below.refl (B+1) W).alloc (by omega) (.cells #[.string s] 9)).drew.block B (by omega)).trans HAt.out.box)
   have hcB:w1.cell? ⟨B,1,none⟩=some v:=by rw[cell_of_row w1 B 1 _ _ _ hb1]; rfl
   have hfB:w1.frozen? ⟨B,1,none⟩=false:=Lib.frozen_of_heap hb1 1
   have HS3:Hid (w1.cell? ⟨lb,lo+q * 4+1,none⟩=some (.int .i64 a)):=(hgrow.cell_far ⟨lb,lo+q * 4+1,none⟩ (by rw[HHs.out]; show lb<_; omega) (hfar lb (by omega))).trans HSb.out
   have HBw:Hid (Below B W w1):=HB1.out.grown hgrow (by rw[HHs.out]; omega) (fun k hk=>by have:=ownsTx_at HOwn.out k hk; omega)
   have HU:Hid (UseAt base B nm (.slice (some ⟨g,0,none⟩) (us.length+1) cap) (us++[s]) (w1.setCell ⟨B,1,none⟩ (.slice (some ⟨g,0,none⟩) (us.length+1) cap))):=by
    refine⟨by rw[block_set hb1]; rfl,?_,hBl,?_⟩
    ·have:=ownsRow_setCell_below hown1 (a:=⟨B,1,none⟩) hBl (.slice (some ⟨g,0,none⟩) (us.length+1) cap)
     rw[tx_snoc,List.length_append]; exact this
    ·have:=hgrow.size
     rw[HHs.out] at this
     simp[World.setCell]; omega
   refine hK _ _ HS3.out ?_
   clear hK K hgrow hown1 hb1
   refine any_take 10 rfl rfl (by kernel_rfl) (by kernel_rfl) (by kernel_rfl) (fun _ _ _ h=>h) (v:=.pointer (some ⟨B,1,none⟩)) (Or.inl ⟨by rfl,fun w hw=>by go_simp⟩) HS3.out ?_
   refine any_one 11 (by kernel_rfl) rfl rfl (fun K hK=>?_)
   have HK:=veil hK
   clear hK
   go_simp
   refine HK.out _ _ ?_ (wpAnyH_done (by kernel_rfl) ⟨_,_,_,_,_,_,_,_,_,_,_,s,_,rfl,⟨HsI.out,hs8⟩,HU.out,HBw.out.setCell (Nat.le_refl _) _⟩ _)
   rw[World.cell?_setCell_other _ _ _ _ (by intro h; injection h with h _ _; omega)]
   exact HS3.out
end Go.Proofs.YtedpiamfpbdhoaaDoor
namespace Go.Proofs.YtedpiamfpbdhoaaDoor
open Go.RowKit
theorem ident_eight' {s:ByteArray} (hi:identOk s=true):s.size≤8:=by
 have hw:wordOk s=true:=by
  unfold identOk at hi
  simp only[Bool.and_eq_true] at hi
  exact hi.1
 by_cases hs:1≤s.size∧s.size≤8
 ·omega
 ·rw[word_long _ hs] at hw; cases hw
theorem all_mem {l:List Nd} (hf:ndsFault l=0) {s:ByteArray}:s∈(ordN l).1++(ordN l).2.1↔∃i,i<l.length∧s=nmN l i:=by
 constructor
 ·intro h
  have hB:Behind l.length (grE l) (rdB l.length (grE l)) (ordAll l.length (grE l) (rdB l.length (grE l))):=ord_behind _ _ .nil
  have e:ordN l=(told l (ordAll l.length (grE l) (rdB l.length (grE l))),namL l (rdB l.length (grE l)) l.length,0):=by
   unfold ordN; rw[if_pos hf]; rfl
  rw[e] at h
  rcases List.mem_append.1 h with h|h
  ·simp only[told,List.mem_reverse,List.mem_map] at h
   obtain⟨i,hi,rfl⟩:=h
   exact⟨i,(hB.lt i hi).1,rfl⟩
  ·obtain⟨i,hi,_,rfl⟩:=namL_iff'.1 h
   exact⟨i,hi,rfl⟩
 ·rintro ⟨i,hi,rfl⟩
  exact (all_told hf).2 i hi
theorem same_len {α:Type} {a b:List α} (ha:a.Nodup) (hb:b.Nodup) (h:∀x,x∈a↔x∈b):a.length=b.length:=
 ((List.perm_ext_iff_of_nodup ha hb).2 h).length_eq
theorem less_irr (x:List UInt8):Op.bytesLess x x=false:=by
 induction x with
 |nil=>rfl
 |cons a r ih=>simp[Op.bytesLess,ih]
theorem compact_len {l:List Nd} (hf:ndsFault l=0) {u:List ByteArray} (hu:u=(ordN l).1++(ordN l).2.1):(Lib.compact (sortB (datas u))).length=l.length:=by
 obtain⟨h1,h2⟩:=usedB_is u
 have hn:(usedB u).Nodup:=h1.imp fun {a b} h e=>by
  subst e
  rw[less_irr] at h; cases h
 have ha:=nds_alone hf
 have hm:((List.range l.length).map fun i=>(nmN l i).data.toList).Nodup:=by
  refine List.pairwise_map.2 (List.nodup_range.imp_of_mem fun {i j} hi hj hne h=>hne ?_)
  have hi':=List.mem_range.1 hi
  have hj':=List.mem_range.1 hj
  have e:=Go.WideShapes.bytes_inj h
  rw[nmN_at hi',nmN_at hj'] at e
  exact ha i j hi' hj' e
 have:=same_len hn hm (fun x=>by
  rw[h2,List.mem_map]
  constructor
  ·rintro ⟨s,hs,rfl⟩
   rw[hu] at hs
   obtain⟨i,hi,rfl⟩:=(all_mem hf).1 hs
   exact⟨i,List.mem_range.2 hi,rfl⟩
  ·rintro ⟨i,hi,rfl⟩
   exact⟨nmN l i,by rw[hu]; exact (all_mem hf).2 ⟨i,List.mem_range.1 hi,rfl⟩,rfl⟩)
 rw[List.length_map,List.length_range] at this
 exact this
theorem all_count {l:List Nd} (hf:ndsFault l=0):((ordN l).1++(ordN l).2.1).length=l.length:=by
 have ha:=nds_alone hf
 have hm:((List.range l.length).map (nmN l)).Nodup:=by
  refine List.pairwise_map.2 (List.nodup_range.imp_of_mem fun {i j} hi hj hne h=>hne ?_)
  have hi':=List.mem_range.1 hi
  have hj':=List.mem_range.1 hj
  rw[nmN_at hi',nmN_at hj'] at h
  exact ha i j hi' hj' h
 have:=same_len (all_told hf).1 hm (fun x=>by
  rw[all_mem hf,List.mem_map]
  constructor
  ·rintro ⟨i,hi,rfl⟩; exact⟨i,List.mem_range.2 hi,rfl⟩
  ·rintro ⟨i,hi,rfl⟩; exact⟨i,List.mem_range.1 hi,rfl⟩)
 rw[List.length_map,List.length_range] at this
 exact this
theorem all_size {l:List Nd} (hf:ndsFault l=0):∀s∈(ordN l).1++(ordN l).2.1,s.size≤8:=fun s hs=>by
 obtain⟨i,hi,rfl⟩:=(all_mem hf).1 hs
 rw[nmN_at hi]
 exact (nds_small hf).2 _ (List.getElem_mem hi)
theorem order_nil {α:Type} {fault:α→Int} {name:α→ByteArray}:∀{l:List α} {p:ByteArray},(∀x∈l,fault x=0)→(∀x∈l,gtB (name x) p=true)→RisesB name l→orderFault fault name l p=0
 |[],_,_,_,_=>rfl
 |x::r,p,hf,hg,hr=>by
  rw[orderFault,if_pos (hf x (List.mem_cons_self ..)),if_pos (hg x (List.mem_cons_self ..))]
  obtain⟨h1,h2⟩:=List.pairwise_cons.1 hr
  exact order_nil (fun y hy=>hf y (List.mem_cons_of_mem _ hy)) (fun y hy=>h1 y hy) h2
def NyGood (y:Ny):Prop:=identOk y.1.name=true∧y.1.uses.length≤24∧(∀u∈y.1.uses,identOk u=true)∧y.2.2.1=y.1.uses.length
theorem nys_zero {l:List Ny} (h6:l.length≤10) (hg:∀y∈l,NyGood y) (hr:RisesB nyName l):ndsFault (l.map (·.1))=0:=by
 unfold ndsFault
 rw[if_neg (by rw[List.length_map]; omega)]
 refine order_nil (fun x hx=>?_) (fun x hx=>?_) ?_
 ·obtain⟨y,hy,rfl⟩:=List.mem_map.1 hx
  obtain⟨h1,h2,h3,_⟩:=hg y hy
  unfold ndFault bad4 ndOk
  rw[if_pos]
  simp only[Bool.and_eq_true,decide_eq_true_eq,List.all_eq_true]
  exact⟨h1,h2,h3⟩
 ·obtain⟨y,hy,rfl⟩:=List.mem_map.1 hx
  exact gt_empty (hg y hy).1
 ·unfold RisesB at *
  rw[List.pairwise_map]
  exact hr
theorem nys_nodes {S:Nat→Prop} {w:World} {l:List Ny} {v:Value} (h:SlAt S (NyAt w) 2 l v) (hS:∀b,S b→b<w.heap.size) (hg:∀y∈l,NyGood y) (hu:∀y∈l,SlAt (fun b=>b<w.heap.size) (StrAt w) 1 y.1.uses (nyVal y)):SlAt (fun b=>b<w.heap.size) (NdAt (fun b=>b<w.heap.size) w) 2 (l.map (·.1)) v:=by
 obtain⟨a,cap,rfl,⟨h1,h2⟩,h⟩:=h
 refine⟨a,cap,by rw[List.length_map],⟨by rw[List.length_map]; exact h1,by rw[List.length_map]; exact h2⟩,?_⟩
 rcases h with h|⟨b,o,rfl,hb,hr⟩
 ·exact .inl (by rw[List.length_map]; exact h)
 ·refine .inr ⟨b,o,rfl,hS b hb,RowAt.mk fun i hi=>?_⟩
  rw[List.length_map] at hi
  obtain⟨c0,c1⟩:=hr.get i hi
  rw[List.getElem_map]
  have hsz:l[i].1.name.size≤maxLen:=by
   have:=ident_eight' (hg _ (List.getElem_mem hi)).1
   unfold maxLen; omega
  exact⟨⟨c0,hsz⟩,_,c1,hu _ (List.getElem_mem hi)⟩
end Go.Proofs.YtedpiamfpbdhoaaDoor
namespace Go.Proofs.YtedpiamfpbdhoaaDoor
open Go.RowKit
theorem ord_none_ahead {l:List Nd} (hf:ndsFault l=0) {i:Nat} (hi:i<l.length) {u:ByteArray} (hu:u∈l[i].uses):0≤idxOf (fun x=>sEq x l[i].name) (ordN l).1→¬idxOf (fun x=>sEq x l[i].name) (ordN l).1≤idxOf (fun x=>sEq x u) (ordN l).1:=by
 have e:(ordN l).1=told l (ordAll l.length (grE l) (rdB l.length (grE l))):=by
  unfold ordN; rw[if_pos hf]; rfl
 have h:=told_ahead hf hi hu
 rw[e]
 generalize told l (ordAll l.length (grE l) (rdB l.length (grE l)))=L at *
 simp only at h
 unfold idxOf
 intro h1 h2
 have h3:findAt (fun x=>sEq x l[i].name) L<L.length:=by
  refine Decidable.byContradiction fun hn=>?_
  rw[if_neg hn] at h1
  exact absurd h1 (by decide)
 rw[if_pos h3] at h2
 by_cases h4:findAt (fun x=>sEq x u) L<L.length
 ·rw[if_pos h4] at h2
  have:=h h3 h4
  omega
 ·rw[if_neg h4] at h2
  omega
structure OrdFine (l:List Nd) (f r:List ByteArray):Prop where
 len:(f++r).length=l.length
 once:(Lib.compact (datas ((sortB (datas (f++r))).map toB))).length=l.length
 small:∀x∈Lib.compact (datas ((sortB (datas (f++r))).map toB)),x.length≤100
 rise:RisesB (fun s:ByteArray=>s) r
 ahead:∀i (hi:i<l.length),∀u∈l[i].uses,0≤idxOf (fun x=>sEq x l[i].name) f→¬idxOf (fun x=>sEq x l[i].name) f≤idxOf (fun x=>sEq x u) f
theorem ord_fine {l:List Nd} (hf:ndsFault l=0):(ordN l).2.2=0∧OrdFine l (ordN l).1 (ordN l).2.1:=by
 refine⟨by unfold ordN; rw[if_pos hf],all_count hf,?_,?_,rounds_rise hf,fun i hi u hu=>ord_none_ahead hf hi hu⟩
 ·rw[datas_toB]; exact compact_len hf rfl
 ·rw[datas_toB]
  intro x hx
  obtain⟨s,hs,rfl⟩:=((usedB_is ((ordN l).1++(ordN l).2.1)).2 x).1 hx
  have:=all_size hf s hs
  show s.data.size≤100
  have e:s.data.size=s.size:=rfl
  omega
end Go.Proofs.YtedpiamfpbdhoaaDoor
