/- Whatever nodes are made, who uses stands behind what it uses, and each is told once (OrdersRight), without conditions. The card is tied to the program's text. -/
import Derived.Test.YtedpiamfpbdhoaaDoorJOr1
import Derived.Test.YtedpiamfpbdhoaaDoorRows
import Derived.Test.YtedpiamfpbdhoaaDoorJOr0
import Derived.Test.YtedpiamfpbdhoaaDoorTie
import Derived.Test.YtedpiamfpbdhoaaDoorCards
import Derived.Test.YtedpiamfpbdhoaaDoorRowOrdersRight
import Derived.Deep.AppendLies
import Derived.OwnWalk
import Derived.ProofKit
import Derived.OpenShut
import Derived.ShutString
import Derived.ChangeOld
import Derived.Lay
import Derived.LaidMore
import Derived.Stop.Joined
import Derived.SevenTiedAt
import Derived.SizedLaws
import Derived.Lib.LaidTab
import Derived.Stop.LaidErr
namespace Go.Proofs.YtedpiamfpbdhoaaDoor.ordersRight
open Go.RowKit
def nameAt (j:Nat):ByteArray:=([⟨#[97]⟩,⟨#[98]⟩,⟨#[98,111,120]⟩,⟨#[100]⟩,⟨#[101,50]⟩,⟨#[102,117,110]⟩]:List ByteArray).getD j ⟨#[97]⟩
theorem nameAt_ok (j:Nat) (hj:j<6):identOk (nameAt j)=true∧(nameAt j).size≤8:=by
 have:j=0∨j=1∨j=2∨j=3∨j=4∨j=5:=by omega
 rcases this with rfl|rfl|rfl|rfl|rfl|rfl <;> exact⟨by decide +kernel,by decide +kernel⟩
theorem nameAt_rise (i j:Nat) (hij:i<j) (hj:j<6):gtB (nameAt j) (nameAt i)=true:=by
 have h1:j=0∨j=1∨j=2∨j=3∨j=4∨j=5:=by omega
 have h2:i=0∨i=1∨i=2∨i=3∨i=4:=by omega
 rcases h1 with rfl|rfl|rfl|rfl|rfl|rfl <;> rcases h2 with rfl|rfl|rfl|rfl|rfl <;> first|omega|decide +kernel
def NamesAre (w:World):Prop:=0<w.heap.size∧∀j,j<6→w.cell? ⟨0,j,none⟩=some (.string (nameAt j))
theorem NamesAre.in {w:World} (h:NamesAre w):NamesIn w:=⟨h.1,fun j hj=>⟨_,h.2 j hj,nameAt_ok j hj⟩⟩
theorem idx_run {n0 n1 n2 n3 n4 n5:ByteArray} {nm:Nat→ByteArray} (h0:nm 0=n0) (h1:nm 1=n1) (h2:nm 2=n2) (h3:nm 3=n3) (h4:nm 4=n4) (h5:nm 5=n5) (k:Nat) (hk:k<6) (W:World):(Instr.index 24 (.agg #[.string n0,.string n1,.string n2,.string n3,.string n4,.string n5]) (.int .i64 (k:Nat))).run Tryd.prog W=.ok (.string (nm k)) W:=by
 subst h0 h1 h2 h3 h4 h5
 have:k=0∨k=1∨k=2∨k=3∨k=4∨k=5:=by omega
 rcases this with rfl|rfl|rfl|rfl|rfl|rfl <;> rfl
theorem own_later {w w':World} {B:Nat} {e:TypeId} {size:Nat} {v:Value} {n:Nat} {xs:List Value} (h:w.ownsRow B e size v n xs) (hb:Below w.heap.size w w'):w'.ownsRow B e size v n xs:=by
 refine⟨h.1,h.2.imp_right ?_⟩
 rintro ⟨g,cap,cur,rfl,hg,hh,hr⟩
 refine⟨g,cap,cur,rfl,hg,(hb.block g ?_).trans hh,hr⟩
 exact (ownsRow_in h g rfl).2
theorem own_sl {W:World} {base c n:Nat} {T:TypeId} {v:Value} {ys:List Value} (h:W.ownsRow base T c v n ys):∃la cap,v=.slice la n cap:=by
 rcases h.2 with ⟨h1,h2⟩|⟨g,cap,_,h1,_⟩
 ·exact⟨none,0,by rw[h1,h2]⟩
 ·exact⟨_,cap,h1⟩
theorem _root_.Go.Proofs.YtedpiamfpbdhoaaDoor.SlAt.isCap' {α:Type} {S:Nat→Prop} {P:α→Nat→Nat→Prop} {c:Nat} {l:List α} {a:Option Addr} {n cap:Nat} (h:SlAt S P c l (.slice a n cap)):l.length≤cap:=by
 obtain⟨a',cap',e,⟨_,h2⟩,_⟩:=h
 injection e with _ _ e3
 omega
theorem sl_cut {α:Type} {S:Nat→Prop} {P:α→Nat→Nat→Prop} {c:Nat} {l:List α} {a:Option Addr} {n cap:Nat} (h:SlAt S P c l (.slice a n cap)) {k:Nat} (hk:k≤l.length):SlAt S P c (l.take k) (.slice a k cap):=by
 obtain⟨a',cap',e,⟨h1,h2⟩,h3⟩:=h
 injection e with e1 e2 e3
 subst e1 e3
 have ht:(l.take k).length=k:=by rw[List.length_take]; omega
 refine⟨a,cap,by rw[ht],⟨by rw[ht]; omega,by rw[ht]; omega⟩,?_⟩
 rcases h3 with h3|⟨b,o,rfl,hb,hr⟩
 ·exact .inl (by rw[ht]; omega)
 ·refine .inr ⟨b,o,rfl,hb,RowAt.mk fun i hi=>?_⟩
  rw[ht] at hi
  rw[List.getElem_take]
  exact hr.get i (by omega)
theorem nd_info:(Tryd.prog.info? 27).map (fun i=>(i.zero,i.size,i.bytes))=some (some (.agg #[.string ⟨#[]⟩,.slice none 0 0]),2,40):=by kernel_rfl
set_option maxRecDepth 100000 in
set_option maxHeartbeats 40000000 in
theorem walk (v:Value) (l:List Rw) (w:World) (hv:SlAt (fun b=>b<w.heap.size) (RwAt w) 4 l v) (hl:l.length≤4398046510976) (hnm:NamesAre w) :
  Calls Tryd.prog 3 #[v] w fun e w'=>e=.returned (.bool true)∧Below w.heap.size w w':=by
 have HL:=veil hv
 obtain⟨la,lc,rfl⟩:=hv.is
 have HNm:=veil hnm.in
 have c0:=hnm.2 0 (by omega)
 have c1:=hnm.2 1 (by omega)
 have c2:=hnm.2 2 (by omega)
 have c3:=hnm.2 3 (by omega)
 have c4:=hnm.2 4 (by omega)
 have c5:=hnm.2 5 (by omega)
 have HOk:Hid (∀j,j<6→identOk (nameAt j)=true∧(nameAt j).size≤8):=nameAt_ok
 have HRise:Hid (∀i j,i<j→j<6→gtB (nameAt j) (nameAt i)=true):=nameAt_rise
 have HIdx:Hid (∀(k:Nat),k<6→∀W,(Instr.index 24 (.agg #[.string (nameAt 0),.string (nameAt 1),.string (nameAt 2),.string (nameAt 3),.string (nameAt 4),.string (nameAt 5)]) (.int .i64 (k:Nat))).run Tryd.prog W=.ok (.string (nameAt k)) W):=fun k hk W=>idx_run rfl rfl rfl rfl rfl rfl k hk W
 generalize nameAt=nm at *
 obtain⟨i0,hi,hz0,hz1,hz2⟩:=info_parts str_info
 have HI0:=veil hi
 have HZ0:=veil hz0
 have HZ1:=veil hz1
 have HZ2:=veil hz2
 obtain⟨j0,hj,hy0,hy1,hy2⟩:=info_parts nd_info
 have HJ0:=veil hj
 have HY0:=veil hy0
 have HY1:=veil hy1
 have HY2:=veil hy2
 clear hv hnm hi hz0 hz1 hz2 hj hy0 hy1 hy2
 go_enter Tryd.func3,Tryd.ntmps3
 go_wp2_with fail
 clear c0 c1 c2 c3 c4 c5
 go_loopw [3,19] (fun nv kv wr=>∃(k:Nat) (ys:List Ny),k≤6∧kv=.int .i64 k∧ys.length=k∧(∀i (hi:i<ys.length),ys[i].1.name=nm i)∧(∀y∈ys,NyGood y)∧wr.ownsRow w.heap.size 27 2 nv ys.length (nyCells ys)∧(∀y∈ys,SlAt (fun b=>b<wr.heap.size∧nv.ownBlock≠some b) (StrAt wr) 1 y.1.uses (nyVal y))∧Below w.heap.size w wr) (fun _ k _=>6 - (intOf k).toNat)
 case atStart=>exact⟨0,[],by omega,rfl,rfl,(fun i hi=>by cases hi),(fun y hy=>by cases hy),World.ownsRow_nil _ _ _ _,(fun y hy=>by cases hy),Below.refl _ _⟩
 case round=>
  obtain⟨k,ys,hk,rfl,hyl,hyn,hyg,hown,hus,hbl⟩:=hrel
  obtain⟨wo,hwo⟩:∃wo,wo=wr:=⟨_,rfl⟩
  subst hwo
  have HYl:=veil hyl
  have HYn:=veil hyn
  have HYg:=veil hyg
  have HOwn:=veil hown
  have HUs:=veil hus
  have HBl:=veil hbl
  have hszo:=hbl.size
  have hyl6:ys.length≤6:=by omega
  clear hyn hyg hown hus hbl hyl
  by_cases hk6:k<6
  ·have hk6':(k:Int)<6:=by omega
   have hk0:(0:Int)≤(k:Int):=by omega
   have hidx:=HIdx.out k hk6
   obtain⟨w2,HW2,hs2,HU0,HB2⟩:∃w2,Hid (wo.alloc (.cells #[.string (nm k),.slice none 0 0] 27)=w2)∧w2.heap.size=wo.heap.size+1∧Hid (UseAt (wo.heap.size+1) wo.heap.size (nm k) (.slice none 0 0) [] w2)∧Hid (Below wo.heap.size wo w2):=
    ⟨_,rfl,by simp,⟨heap_alloc_new wo _,World.ownsRow_nil _ _ _ _,Nat.lt_succ_self _,by simp⟩,(Below.refl _ _).alloc (Nat.le_refl _) _⟩
   go_wp2_with (first|(rw[HW2.out]; clear HW2)|fail)
   clear hidx
   go_loopw [7] (fun qv wz=>∃(q:Nat) (us:List ByteArray) (vv:Value),qv=.int .i64 q∧us.length≤q∧q≤l.length+6∧(∀u∈us,identOk u=true)∧UseAt (wo.heap.size+1) wo.heap.size (nm k) vv us wz∧Below wo.heap.size wo wz) (fun q _=>l.length - (intOf q).toNat)
   case atStart=>exact⟨k,[],_,rfl,Nat.zero_le _,by omega,(fun u hu=>by cases hu),HU0.out,HB2.out⟩
   case round=>
    clear HU0 HB2
    obtain⟨q,us,vv,rfl,hul,hql,hui,hua,hbz⟩:=hrel
    obtain⟨wz,hwz⟩:∃wz,wz=wr:=⟨_,rfl⟩
    subst hwz
    have HUi:=veil hui
    have HU2:=veil hua
    have HBz:=veil hbz
    have hszz:=hbz.size
    clear hui hua hbz
    by_cases hqt:q<l.length
    ·have hqt':(q:Int)<(l.length:Int):=by omega
     obtain⟨_,b,off,rfl,hb,⟨⟨_,r1,_,_⟩,_,fa,_,_⟩⟩:=HL.out.at hqt
     have HBw2:Hid (Below w.heap.size w wz):=HBl.out.trans (HBz.out.mono hszo)
     have hr1:=(HBw2.out.cell (p:=⟨b,off+q * 4+1,none⟩) hb).trans r1
     have hlb:b<wo.heap.size:=Nat.lt_of_lt_of_le hb hszo
     have hnm2:=HNm.out.keep HBw2.out
     have hul2:us.length≤4398046511104:=by omega
     have hu2:=HU2.out
     have HR1:=veil hr1
     have HNm2:=veil hnm2
     have HU3:=veil hu2
     clear r1 hr1 hnm2 hu2 HIdx HRise
     go_wp2_with fail
     refine Code.wp_mono ?_ (use_region _ _ _ _ _ _ _ _ _ _ _ _ _ _ _ _ _ _ _ _ _ _ _ _ _ _ _ _ _ _ _ _ _ _ _ _ _ _ _ _ _ _ _ _ _ _ _ _ _ _ _ _ _ _ _ _ _ _ _ _ _ _ _ _ _ _ _ _ _ _ _ _ _ _ _ _ _ _ _ _ _ _ _ _ _ _ _ _ _ _ _ _ _ _ _ _ _ _ _ _ _ _ _ _ _ _ _ _ _ b off l.length lc q hqt wo.heap.size (wo.heap.size+1) (nm k) vv us hul2 l[q].a fa wz HU3.out HR1.out hlb HNm2.out)
     intro e a w' h
     cases e with
     |normal=>
      obtain⟨v32,v33,v34,v35,v36,v37,v38,v39,v40,v41,v42,s,v',rfl,⟨hs1,hs2'⟩,hu',hb'⟩:=h
      have HU4:=veil hu'
      have HB4:=veil (HBz.out.trans hb')
      have HUi4:Hid (∀u∈us++[s],identOk u=true):=fun u hu=>by
       rcases List.mem_append.1 hu with h|h
       ·exact HUi.out u h
       ·simp at h; subst h; exact hs1
      clear hu' hb' HU2 HU3 HR1 HNm2
      go_wp2_with fail
      exact⟨⟨q+6,us++[s],v',by go_num,by simp; omega,by omega,HUi4.out,HU4.out,HB4.out⟩,by simp[intOf]; omega⟩
     |_=>exact h.elim
    ·have hnq:¬(q:Int)<(l.length:Int):=by omega
     have HUz:Hid (∀t∈us,t.size≤maxLen):=fun t ht=>by have:=ident_eight' (HUi.out t ht); unfold maxLen; omega
     obtain⟨oa,ocap,rfl⟩:=own_sl HU2.out.own
     have d1:wz.cell? ⟨wo.heap.size,1,none⟩=some (.slice oa us.length ocap):=by rw[cell_of_row _ _ _ _ _ _ HU2.out.box]; rfl
     have d0:wz.cell? ⟨wo.heap.size,0,none⟩=some (.string (nm k)):=by rw[cell_of_row _ _ _ _ _ _ HU2.out.box]; rfl
     have f1:wz.frozen? ⟨wo.heap.size,1,none⟩=false:=Lib.frozen_of_heap HU2.out.box 1
     have hoc:us.length≤ocap:=(tx_row HU2.out.own (by unfold maxLen; omega) HUz.out).isCap'
     by_cases h24:us.length≤24
     ·have h24':¬(24:Int)<(us.length:Int):=by omega
      obtain⟨wp,HWp,hsz,hB,k0,k1,hsl,hgood⟩:∃wp,Hid (wz=wp)∧wp.heap.size=wz.heap.size∧Below wo.heap.size wo wp∧wp.cell? ⟨wo.heap.size,0,none⟩=some (.string (nm k))∧wp.cell? ⟨wo.heap.size,1,none⟩=some (.slice oa us.length ocap)∧SlAt (fun b=>wo.heap.size+1≤b∧b<wp.heap.size) (StrAt wp) 1 (us) (.slice oa us.length ocap)∧NyGood (⟨nm k,us⟩,oa,us.length,ocap):=by
       have hb:=HU2.out.box
       have hr:=tx_row HU2.out.own (by unfold maxLen; omega) HUz.out
       refine⟨_,rfl,rfl,HBz.out,?_,?_,hr,⟨(HOk.out k hk6).1,by show us.length≤24; omega,HUi.out,rfl⟩⟩
       ·rw[cell_of_row _ _ _ _ _ _ hb]; rfl
       ·rw[cell_of_row _ _ _ _ _ _ hb]; rfl
      have HSl:=veil hsl
      have HGd:=veil hgood
      have HBp:=veil hB
      have hszp:=hB.size
      have hlt0:wo.heap.size<wp.heap.size:=World.block_lt_of_cell? _ _ k0
      have HOn:Hid (wp.ownsRow w.heap.size 27 2 u3 ys.length (nyCells ys)):=own_later HOwn.out hB
      have HBw:Hid (Below w.heap.size w wp):=HBl.out.trans (hB.mono HBl.out.size)
      have hszw:=HBw.out.size
      have HAp:Hid (∀y∈ys++[((⟨nm k,us⟩,oa,us.length,ocap):Ny)],SlAt (fun b=>b<wp.heap.size∧u3.ownBlock≠some b) (StrAt wp) 1 y.1.uses (nyVal y)):=fun y hy=>by
       rcases List.mem_append.1 hy with h|h
       ·exact apart_later (HUs.out y h) hB
       ·simp at h
        subst h
        exact strSl_keep ⟨fun _ _=>rfl,fun b hb=>⟨hb.2,fun he=>by have:=(ownsRow_in HOwn.out b he).2; omega⟩⟩ HSl.out
      have HNews:Hid (∀j u',([.string (nm k),.slice oa us.length ocap]:List Value)[j]? = some u'→(wp.alloc (.cells #[.string (nm k),.slice oa us.length ocap] 27)).cell? ((⟨wp.heap.size,0,none⟩:Addr).add j)=some u'):=
       World.news_of_block (cs:=#[.string (nm k),.slice oa us.length ocap]) (t:=27) (fr:=(0,0)) (heap_alloc_new wp _)
      have HGr5:Hid (∀w',(wp.alloc (.cells #[.string (nm k),.slice oa us.length ocap] 27)).grownBy w' (Value.ownBlock u3)→Below w.heap.size w w'):=fun w' hg=>by
       have hrow:=fun q hq=>(ownsRow_in HOn.out q hq).1
       exact (HBw.out.alloc (by omega) _).grown hg (by simp; omega) (fun q hq=>hrow q hq)
      have HNames:Hid (∀i (hi:i<(ys++[((⟨nm k,us⟩,oa,us.length,ocap):Ny)]).length),(ys++[((⟨nm k,us⟩,oa,us.length,ocap):Ny)])[i].1.name=nm i):=fun i hi=>by
       rw[List.length_append,List.length_singleton] at hi
       by_cases hik:i<ys.length
       ·rw[List.getElem_append_left hik]; exact HYn.out i hik
       ·have:i=ys.length:=by omega
        subst this
        rw[List.getElem_append_right (by omega)]
        simp[HYl.out]
      have HGood:Hid (∀y∈ys++[((⟨nm k,us⟩,oa,us.length,ocap):Ny)],NyGood y):=fun y hy=>by
       rcases List.mem_append.1 hy with h|h
       ·exact HYg.out y h
       ·simp at h; subst h; exact HGd.out
      clear hsl hgood hB HU2 HBz hsz HOwn HUs HBl HGd HSl HYg HYn HL HNm HIdx HRise
      go_wp2_with (first|(rw[HWp.out]; clear HWp)|(at_builtin; refine wpList_append_lies _ rfl _ _ 23 rfl w.heap.size 27 j0 (.agg #[.string ⟨#[]⟩,.slice none 0 0]) 2 40 Tryd.underlying23 HJ0.out HY0.out HY1.out HY2.out rfl (by decide) _ _ _ rfl (HOn.out.alloc _) ⟨wp.heap.size,0,none⟩ 1 1 [.string (nm k),.slice oa us.length ocap] rfl rfl HNews.out (fun u' hu'=>by simp at hu'; rcases hu' with rfl|rfl <;> rfl) (by decide) (by unfold maxLen; omega) (by omega) (by simp; omega) (wp.heap.size+1) (by simp) ?_))
      intro g5 cap5 w5 hown5 hgrow5 hat5 hlt5
      all_goals
       have HB5:Hid (Below w.heap.size w w5):=HGr5.out _ hgrow5
       have HO5:Hid (w5.ownsRow w.heap.size 27 2 (.slice (some ⟨g5,0,none⟩) (ys.length+1) cap5) (ys++[((⟨nm k,us⟩,oa,us.length,ocap):Ny)]).length (nyCells (ys++[((⟨nm k,us⟩,oa,us.length,ocap):Ny)]))):=by
        show w5.ownsRow _ _ _ _ _ _
        rw[nyCells_snoc,List.length_append]
        exact hown5
       have HA5:Hid (∀y∈ys++[((⟨nm k,us⟩,oa,us.length,ocap):Ny)],SlAt (fun b=>b<w5.heap.size∧(Value.slice (some ⟨g5,0,none⟩) (ys.length+1) cap5).ownBlock≠some b) (StrAt w5) 1 y.1.uses (nyVal y)):=fun y hy=>apart_grown (HAp.out y hy) hgrow5 hat5
       clear hown5 hgrow5 hat5 hlt5
       go_wp2_with fail
       exact⟨⟨k+1,_,by omega,by go_num,by rw[List.length_append,HYl.out]; rfl,HNames.out,HGood.out,HO5.out,HA5.out,HB5.out⟩,by simp[intOf]; omega⟩
     ·have h24':(24:Int)<(us.length:Int):=by omega
      have h24c:(24:Int)≤(ocap:Int):=by omega
      obtain⟨wp,HWp,hsz,hB,k0,k1,hsl,hgood⟩:∃wp,Hid (wz.setCell ⟨wo.heap.size,1,none⟩ (.slice oa 24 ocap)=wp)∧wp.heap.size=wz.heap.size∧Below wo.heap.size wo wp∧wp.cell? ⟨wo.heap.size,0,none⟩=some (.string (nm k))∧wp.cell? ⟨wo.heap.size,1,none⟩=some (.slice oa 24 ocap)∧SlAt (fun b=>wo.heap.size+1≤b∧b<wp.heap.size) (StrAt wp) 1 (us.take 24) (.slice oa 24 ocap)∧NyGood (⟨nm k,us.take 24⟩,oa,24,ocap):=by
       have hb:=HU2.out.box
       have ht:(us.take 24).length=24:=by rw[List.length_take]; omega
       have hr:=tx_row HU2.out.own (by unfold maxLen; omega) HUz.out
       refine⟨_,rfl,by simp[World.setCell],HBz.out.setCell (Nat.le_refl _) _,?_,?_,?_,⟨(HOk.out k hk6).1,by show (us.take 24).length≤24; omega,fun u hu=>HUi.out u (List.mem_of_mem_take hu),ht.symm⟩⟩
       ·rw[cell_of_row _ _ _ _ _ _ (block_set hb 1 _)]; rfl
       ·rw[cell_of_row _ _ _ _ _ _ (block_set hb 1 _)]; rfl
       ·have h1:=sl_cut hr (k:=24) (by omega)
        exact strSl_keep ⟨fun b hb'=>Below.heap_setCell _ _ _ _ (by show b≠wo.heap.size; omega),fun b hb'=>⟨hb'.1,by simpa [World.setCell] using hb'.2⟩⟩ h1
      have HSl:=veil hsl
      have HGd:=veil hgood
      have HBp:=veil hB
      have hszp:=hB.size
      have hlt0:wo.heap.size<wp.heap.size:=World.block_lt_of_cell? _ _ k0
      have HOn:Hid (wp.ownsRow w.heap.size 27 2 u3 ys.length (nyCells ys)):=own_later HOwn.out hB
      have HBw:Hid (Below w.heap.size w wp):=HBl.out.trans (hB.mono HBl.out.size)
      have hszw:=HBw.out.size
      have HAp:Hid (∀y∈ys++[((⟨nm k,us.take 24⟩,oa,24,ocap):Ny)],SlAt (fun b=>b<wp.heap.size∧u3.ownBlock≠some b) (StrAt wp) 1 y.1.uses (nyVal y)):=fun y hy=>by
       rcases List.mem_append.1 hy with h|h
       ·exact apart_later (HUs.out y h) hB
       ·simp at h
        subst h
        exact strSl_keep ⟨fun _ _=>rfl,fun b hb=>⟨hb.2,fun he=>by have:=(ownsRow_in HOwn.out b he).2; omega⟩⟩ HSl.out
      have HNews:Hid (∀j u',([.string (nm k),.slice oa 24 ocap]:List Value)[j]? = some u'→(wp.alloc (.cells #[.string (nm k),.slice oa 24 ocap] 27)).cell? ((⟨wp.heap.size,0,none⟩:Addr).add j)=some u'):=
       World.news_of_block (cs:=#[.string (nm k),.slice oa 24 ocap]) (t:=27) (fr:=(0,0)) (heap_alloc_new wp _)
      have HGr5:Hid (∀w',(wp.alloc (.cells #[.string (nm k),.slice oa 24 ocap] 27)).grownBy w' (Value.ownBlock u3)→Below w.heap.size w w'):=fun w' hg=>by
       have hrow:=fun q hq=>(ownsRow_in HOn.out q hq).1
       exact (HBw.out.alloc (by omega) _).grown hg (by simp; omega) (fun q hq=>hrow q hq)
      have HNames:Hid (∀i (hi:i<(ys++[((⟨nm k,us.take 24⟩,oa,24,ocap):Ny)]).length),(ys++[((⟨nm k,us.take 24⟩,oa,24,ocap):Ny)])[i].1.name=nm i):=fun i hi=>by
       rw[List.length_append,List.length_singleton] at hi
       by_cases hik:i<ys.length
       ·rw[List.getElem_append_left hik]; exact HYn.out i hik
       ·have:i=ys.length:=by omega
        subst this
        rw[List.getElem_append_right (by omega)]
        simp[HYl.out]
      have HGood:Hid (∀y∈ys++[((⟨nm k,us.take 24⟩,oa,24,ocap):Ny)],NyGood y):=fun y hy=>by
       rcases List.mem_append.1 hy with h|h
       ·exact HYg.out y h
       ·simp at h; subst h; exact HGd.out
      clear hsl hgood hB HU2 HBz hsz HOwn HUs HBl HGd HSl HYg HYn HL HNm HIdx HRise
      go_wp2_with (first|(rw[HWp.out]; clear HWp)|(at_builtin; refine wpList_append_lies _ rfl _ _ 23 rfl w.heap.size 27 j0 (.agg #[.string ⟨#[]⟩,.slice none 0 0]) 2 40 Tryd.underlying23 HJ0.out HY0.out HY1.out HY2.out rfl (by decide) _ _ _ rfl (HOn.out.alloc _) ⟨wp.heap.size,0,none⟩ 1 1 [.string (nm k),.slice oa 24 ocap] rfl rfl HNews.out (fun u' hu'=>by simp at hu'; rcases hu' with rfl|rfl <;> rfl) (by decide) (by unfold maxLen; omega) (by omega) (by simp; omega) (wp.heap.size+1) (by simp) ?_))
      intro g5 cap5 w5 hown5 hgrow5 hat5 hlt5
      all_goals
       have HB5:Hid (Below w.heap.size w w5):=HGr5.out _ hgrow5
       have HO5:Hid (w5.ownsRow w.heap.size 27 2 (.slice (some ⟨g5,0,none⟩) (ys.length+1) cap5) (ys++[((⟨nm k,us.take 24⟩,oa,24,ocap):Ny)]).length (nyCells (ys++[((⟨nm k,us.take 24⟩,oa,24,ocap):Ny)]))):=by
        show w5.ownsRow _ _ _ _ _ _
        rw[nyCells_snoc,List.length_append]
        exact hown5
       have HA5:Hid (∀y∈ys++[((⟨nm k,us.take 24⟩,oa,24,ocap):Ny)],SlAt (fun b=>b<w5.heap.size∧(Value.slice (some ⟨g5,0,none⟩) (ys.length+1) cap5).ownBlock≠some b) (StrAt w5) 1 y.1.uses (nyVal y)):=fun y hy=>apart_grown (HAp.out y hy) hgrow5 hat5
       clear hown5 hgrow5 hat5 hlt5
       go_wp2_with fail
       exact⟨⟨k+1,_,by omega,by go_num,by rw[List.length_append,HYl.out]; rfl,HNames.out,HGood.out,HO5.out,HA5.out,HB5.out⟩,by simp[intOf]; omega⟩
  ·have hnk:¬(k:Int)<6:=by omega
   have HApart:Hid (Apart nyName ys):=List.pairwise_iff_getElem.2 fun i j hi hj hij=>by
    cases he:sEq (nyName ys[i]) (nyName ys[j]) with
    |false=>rfl
    |true=>
     have e:=sEq_eq he
     have hg:=HRise.out i j hij (by omega)
     have e1:nyName ys[i]=nm i:=HYn.out i hi
     have e2:nyName ys[j]=nm j:=HYn.out j hj
     rw[← e1,← e2,e] at hg
     have h0:gtB (nyName ys[j]) (nyName ys[j])=false:=by unfold gtB; simp
     rw[h0] at hg
     cases hg
   have hy6:ys.length=6:=by have:=HYl.out; omega
   have hY6:=veil hy6
   clear HIdx HNm HL HOk HRise HYn HI0 HZ0 HZ1 HZ2 HJ0 HY0 HY1 HY2 HYl
   go_wp2_with fail
   refine (sort_nd HOwn.out (by omega) HApart.out).mono ?_
   rintro e w1 ⟨rfl,⟨ls,hperm,hrise,hsl⟩,hgr⟩
   have hfar1:∀q,u3.ownBlock=some q→w.heap.size≤q:=fun q hq=>(ownsRow_in HOwn.out q hq).1
   have HB1:Hid (Below w.heap.size w w1):=HBl.out.grown hgr hszo hfar1
   have hgd1:∀y∈ls,NyGood y:=fun y hy=>HYg.out y (hperm.mem_iff.1 hy)
   have hl6:ls.length=6:=by rw[hperm.length_eq]; exact hY6.out
   have hnds:=nys_nodes hsl (fun b hb=>hb.2) hgd1 (fun y hy=>strSl_keep ⟨fun b hb=>hgr.block b hb.1 (fun e=>hb.2 e.symm),fun b hb=>Nat.lt_of_lt_of_le hb.1 hgr.size⟩ (HUs.out y (hperm.mem_iff.1 hy)))
   have hf:=nys_zero (by omega) hgd1 hrise
   obtain⟨L,hL⟩:∃L,L=ls.map (·.1):=⟨_,rfl⟩
   have hL6:L.length=6:=by rw[hL,List.length_map,hl6]
   rw[← hL] at hnds hf
   obtain⟨he0,hfine⟩:=ord_fine hf
   have hord:=order_any (fun b=>b<w1.heap.size) L u3 w1 (fun _ h=>h) hnds
   rw[he0] at hord
   generalize (ordN L).1=f at *
   generalize (ordN L).2.1=r at *
   have HOrd:=veil hord
   have HFine:=veil hfine
   have HNd:=veil hnds
   have hw1:w.heap.size≤w1.heap.size:=HB1.out.size
   clear hord hfine he0 hL hf hgd1 hperm hrise hsl hgr hfar1 hl6 HOwn HUs HYg HApart HBl hnds hY6 hszo
   go_wp2_with fail
   refine HOrd.out.mono ?_
   rintro e w2 ⟨vf,vl,rfl,hvf,hvl,hb2⟩
   have hw2:=hb2.size
   have HB2:=veil hb2
   have HVf:=veil hvf
   have HVl:=veil hvl
   have hfl:f.length+r.length=6:=by have:=HFine.out.len; rw[List.length_append] at this; omega
   obtain⟨fa,fc,rfl⟩:=hvf.is
   obtain⟨ra,rc,rfl⟩:=hvl.is
   obtain⟨na,nc,rfl⟩:=HNd.out.is
   have HCon:Hid (Calls Tryd.prog 9 #[.slice (some ⟨w2.heap.size,0,none⟩) 2 2] (w2.alloc (.cells #[.slice fa f.length fc,.slice ra r.length rc] 25)) fun e w'=>∃u,e=.returned u∧w'.ownsRow w2.heap.size 9 1 u (f++r).length (txVals (f++r))∧Below w2.heap.size w2 w'):=by
    have hal:Below w2.heap.size w2 (w2.alloc (.cells #[.slice fa f.length fc,.slice ra r.length rc] 25)):=(Below.refl _ _).alloc (Nat.le_refl _) _
    have hk:Keeps (fun b=>b<w2.heap.size) (fun b=>b<(w2.alloc (.cells #[.slice fa f.length fc,.slice ra r.length rc] 25)).heap.size) w2 (w2.alloc (.cells #[.slice fa f.length fc,.slice ra r.length rc] 25)):=⟨fun b hb=>hal.block b hb,fun b hb=>Nat.lt_of_lt_of_le hb hal.size⟩
    have h1:=strSl_keep hk (hvf.imp (fun b hb=>hb.2) (fun _ _ _ _ _ h=>h))
    have h2:=strSl_keep hk (hvl.imp (fun b hb=>hb.2) (fun _ _ _ _ _ h=>h))
    have hc:=concat_tx (fun b=>b<(w2.alloc (.cells #[.slice fa f.length fc,.slice ra r.length rc] 25)).heap.size) [f,r] (.slice (some ⟨w2.heap.size,0,none⟩) 2 2) (w2.alloc (.cells #[.slice fa f.length fc,.slice ra r.length rc] 25)) (fun _ h=>h) ⟨_,2,rfl,⟨by simp[maxLen],by simp⟩,.inr ⟨_,0,rfl,by simp,RowAt.mk fun i hi=>by
     have:i=0∨i=1:=by simp at hi; omega
     rcases this with rfl|rfl
     ·exact⟨_,by simp[go_sem],h1⟩
     ·exact⟨_,by simp[go_sem],h2⟩⟩⟩ (by simp[tsLen]; omega)
    refine hc.mono ?_
    rintro e w' ⟨u,rfl,ho,hb⟩
    have ec:tsCat [f,r]=f++r:=by simp[tsCat]
    rw[ec] at ho
    refine⟨u,rfl,⟨ho.1,ho.2.imp_right ?_⟩,hal.trans (hb.mono hal.size)⟩
    rintro ⟨g,cap,cur,h1,h2,h3⟩
    exact⟨g,cap,cur,h1,Nat.le_trans hal.size h2,h3⟩
   clear hvf hvl hb2 HOrd
   go_wp2_with fail
   refine HCon.out.mono ?_
   rintro e w3 ⟨va,rfl,hown3,hb3⟩
   have HOwn3:=veil hown3
   have HB3:=veil hb3
   have hall:(f++r).length≤100:=by rw[List.length_append]; omega
   clear hown3 hb3 HCon
   go_wp2_with fail
   refine (sort_tx HOwn3.out hall).mono ?_
   rintro e w4 ⟨rfl,hown4,hgr4⟩
   have HB4:Hid (Below w2.heap.size w2 w4):=HB3.out.grown hgr4 HB3.out.size (fun q hq=>(ownsRow_in HOwn3.out q hq).1)
   have HOwn4:=veil hown4
   have HIs:Hid (Calls Tryd.prog 11 #[.slice ra r.length rc] w4 fun e w'=>e=.returned (.bool true)∧Below w4.heap.size w4 w'):=
    sorted_tx (fun b=>b<w4.heap.size) r _ w4 (fun _ h=>h) (strSl_keep ⟨fun b hb=>HB4.out.block b hb.2,fun b hb=>Nat.lt_of_lt_of_le hb.2 HB4.out.size⟩ HVl.out) HFine.out.rise
   have HCom:Hid (∀W,Below w4.heap.size w4 W→Calls Tryd.prog 12 #[va] W fun e w'=>∃a c,e=.returned (.slice a 6 c)∧Below w2.heap.size w2 w'):=fun W hW=>by
    have e6:(f++r).length=((sortB (datas (f++r))).map toB).length:=by rw[List.length_map,sortB_len,datas_len]
    have ho:=own_later HOwn4.out hW
    rw[e6] at ho
    refine (compact_tx ho (by rw[← e6]; exact hall) HFine.out.small).mono ?_
    rintro e w' ⟨u,rfl,hu,hg⟩
    obtain⟨a,c,rfl⟩:=hu.is
    refine⟨a,c,?_,(HB4.out.trans (hW.mono HB4.out.size)).grown hg (HB4.out.trans (hW.mono HB4.out.size)).size (fun q hq=>(ownsRow_in ho q hq).1)⟩
    rw[List.length_map,HFine.out.once,hL6]
   clear hown4 hgr4 HOwn3 HOwn4 HB3 HVl
   go_wp2_with fail
   refine HIs.out.mono ?_
   rintro e w5 ⟨rfl,hb5⟩
   have HB5:=veil hb5
   clear HIs hb5
   go_wp2_with fail
   refine (HCom.out _ HB5.out).mono ?_
   rintro e w6 ⟨ca,cc,rfl,hb6⟩
   have HB6:=veil hb6
   have HIx:Hid (∀W,Below w2.heap.size w2 W→∀s,Calls Tryd.prog 13 #[.slice fa f.length fc,.string s] W fun e w'=>e=.returned (.int .i64 (idxOf (fun x=>sEq x s) f))∧Below W.heap.size W w'):=fun W hW s=>
    index_str (fun b=>b<W.heap.size) f s _ W (fun _ h=>h) (strSl_keep ⟨fun b hb=>hW.block b hb.2,fun b hb=>Nat.lt_of_lt_of_le hb.2 hW.size⟩ HVf.out)
   have HBw:Hid (∀W,Below w2.heap.size w2 W→Below w.heap.size w W):=fun W hW=>HB1.out.trans ((HB2.out.trans (hW.mono hw2)).mono hw1)
   clear hb6 HCom HB5 HB4 HVf
   go_wp2_with fail
   go_loopw [85] (fun iv wr=>∃i:Nat,i≤L.length∧iv=.int .i64 i∧Below w2.heap.size w2 wr) (fun i _=>L.length - (intOf i).toNat)
   case atStart=>exact⟨0,Nat.zero_le _,rfl,HB6.out⟩
   case round=>
    clear HB6
    obtain⟨i,hi,rfl,hbr⟩:=hrel
    have HBr:=veil hbr
    by_cases hit:i<L.length
    ·have hit':(i:Int)<(L.length:Int):=by omega
     have hi0:(0:Int)≤(i:Int):=by omega
     obtain⟨_,b,off,rfl,hb,hat⟩:=HNd.out.at hit
     obtain⟨a1,cap1,c0,m0,c1,hu⟩:=nd_cells hat
     have hbr2:=HB2.out.trans (hbr.mono hw2)
     have d0:=(hbr2.cell (p:=⟨b,off+i * 2,none⟩) hb).trans c0
     have d1:=(hbr2.cell (p:=⟨b,off+i * 2+1,none⟩) hb).trans c1
     have hblt:b<wr.heap.size:=Nat.lt_of_lt_of_le hb hbr2.size
     have HUse:Hid (∀W,Below w2.heap.size w2 W→SlAt (fun b=>b<w1.heap.size) (StrAt W) 1 L[i].uses (.slice a1 L[i].uses.length cap1)):=fun W hW=>strSl_keep ⟨fun b hb=>(HB2.out.trans (hW.mono hw2)).block b hb,fun _ h=>h⟩ hu
     have HAh:=veil (HFine.out.ahead i hit)
     have hbw:=hbr
     have HAl:Hid (∀o,Below w2.heap.size w2 (wr.alloc o)):=fun o=>hbr.alloc hbr.size _
     have HBox:Hid (∀x y W,Below (wr.alloc (.cells #[x,y] 27)).heap.size (wr.alloc (.cells #[x,y] 27)) W→W.cell? ⟨wr.heap.size,1,none⟩=some y):=fun x y W hW=>
      (hW.cell (p:=⟨wr.heap.size,1,none⟩) (by simp)).trans (by simp[go_sem])
     clear c0 c1 m0 hat hu hbr hbr2 HNd HBr HFine
     generalize L[i].name=x at *
     generalize L[i].uses=us at *
     have hul:us.length≤9223372036854775807:=by have:=(HUse.out wr hbw).len; unfold maxLen at this; omega
     clear hbw
     go_wp2_with fail
     refine (HIx.out _ (HAl.out _) _).mono ?_
     rintro e w7 ⟨rfl,hb7⟩
     have e1:=HBox.out _ _ _ hb7
     have HB7:Hid (Below w2.heap.size w2 w7):=(HAl.out _).trans (hb7.mono (HAl.out _).size)
     generalize idxOf (fun z=>sEq z x) f=at0 at *
     clear hb7 HBox HAl d0 d1
     go_wp2_with fail
     go_loopw [96] (fun jv wz=>∃j:Nat,j≤us.length∧jv=.int .i64 j∧Below w2.heap.size w2 wz) (fun j _=>us.length - (intOf j).toNat)
     case atStart=>exact⟨0,Nat.zero_le _,rfl,HB7.out⟩
     case round=>
      clear HB7
      obtain⟨j,hj,rfl,hbz⟩:=hrel
      have HBz:=veil hbz
      by_cases hjt:j<us.length
      ·have hjt':(j:Int)<(us.length:Int):=by omega
       have hj0:(0:Int)≤(j:Int):=by omega
       obtain⟨_,b2,off2,rfl,hb2',⟨c2,m2⟩⟩:=(HUse.out _ hbz).at hjt
       rw[Nat.mul_one] at c2
       have hAh:=HAh.out _ (List.getElem_mem hjt)
       have HIx2:=HIx.out _ hbz us[j]
       have HIx3:=veil HIx2
       generalize us[j]=u' at *
       clear hbz HIx2 m2
       generalize idxOf (fun z=>sEq z u') f=at1 at *
       by_cases h0:0≤at0
       ·have h1:=hAh h0
        clear hAh
        go_wp2_with fail
        refine HIx3.out.mono ?_
        rintro e w8 ⟨rfl,hb8⟩
        have HB8:Hid (Below w2.heap.size w2 w8):=HBz.out.trans (hb8.mono HBz.out.size)
        clear hb8
        go_wp2_with fail
        exact⟨⟨j+1,by omega,by go_num,HB8.out⟩,by simp[intOf]; omega⟩
       ·clear hAh
        go_wp2_with fail
        refine HIx3.out.mono ?_
        rintro e w8 ⟨rfl,hb8⟩
        have HB8:Hid (Below w2.heap.size w2 w8):=HBz.out.trans (hb8.mono HBz.out.size)
        clear hb8
        go_wp2_with fail
        exact⟨⟨j+1,by omega,by go_num,HB8.out⟩,by simp[intOf]; omega⟩
      ·have hnj:¬(j:Int)<(us.length:Int):=by omega
       clear hbz HUse HAh HIx
       go_wp2_with fail
       exact⟨⟨i+1,by omega,by go_num,HBz.out⟩,by simp[intOf]; omega⟩
    ·have hni:¬(i:Int)<(L.length:Int):=by omega
     clear HIx HNd HFine
     go_wp2_with fail
     go_ret
     exact⟨rfl,HBw.out _ HBr.out⟩
end Go.Proofs.YtedpiamfpbdhoaaDoor.ordersRight
namespace Go.Proofs.YtedpiamfpbdhoaaDoor.ordersRight
open Go.ChangeShapes Go.WideShapes Go.ChangeAt Go.RowKit
open Go.ChangeMaps (open_string shut_string)
theorem own:ownKnob Tryd.prog.godebug=none:=by kernel_rfl
theorem laidOut:laidOutB Tryd.prog=true:=laidBut
abbrev laidRows:List (String×DataW Unit):=Rows.ordersRightRow.laid
theorem laid_met (os:Os) (args:Array Value):laidMetH Tryd.prog laidRows ((World.laidAll Tryd.prog os laidRows).forCall (fun _ _=>0) ⟨#[],args,[]⟩).memory:=by
 rw[MakeChecks.laidMetH_plain _ _ _ (by kernel_rfl)]
 exact laidMet_laidAll _ (by kernel_rfl) (by kernel_rfl)
theorem gNames:Tryd.prog.globalNamed "scullery/scullerykeep.names" = some 0:=by kernel_rfl
theorem tNames:(Tryd.prog.globals[0]?).map (·.type)=some 24:=by kernel_rfl
theorem cellsNames:Tryd.prog.cellsOf 24=6:=by kernel_rfl
theorem cellsStr1:Tryd.prog.cellsOf 9=1:=by kernel_rfl
theorem names_of_laid {W:World} (h:laidMet Tryd.prog laidRows W):NamesAre W:=by
 have h':=h
 obtain⟨ps,⟨g',t',cs,fuel,p,q,hg',ht',hvar,hd,_,_⟩,_⟩:=h'
 obtain rfl:=Option.some.inj (gNames.symm.trans hg')
 obtain rfl:=Option.some.inj (tNames.symm.trans ht')
 obtain⟨xs,m,_,hx,hcl,hxl,hel⟩:=DataW.trod_array Tryd.underlying24 hd
 rw[cellsNames] at hcl
 have hxs:xs.map (·.1)=[.lit (.string [97]),.lit (.string [98]),.lit (.string [98,111,120]),.lit (.string [100]),.lit (.string [101,50]),.lit (.string [102,117,110])]:=by
  have:=congrArg Prod.fst hx
  injection this with this
  exact this.symm
 have each:∀j,j<6→W.cell? ⟨0,j,none⟩=some (.string (nameAt j)):=fun j hj=>by
  have he:=hel j hj
  rw[cellsStr1,Nat.mul_one,List.getElem?_eq_getElem (by omega)] at he
  obtain⟨s,hcs,hlit,_⟩:=DataW.trod_string Tryd.underlying9 he
  have h1:cs[j]? = some (.string s):=by
   have:=congrArg (·[0]?) hcs
   simpa [List.getElem?_take,List.getElem?_drop] using this
  have h2:(xs.map (·.1))[j]? = some (.lit (.string s.data.toList)):=by
   rw[List.getElem?_map,List.getElem?_eq_getElem (by omega)]
   have:=congrArg Prod.fst hlit
   simpa using this
  rw[hxs] at h2
  have hs:s=nameAt j:=by
   have hj':j=0∨j=1∨j=2∨j=3∨j=4∨j=5:=by omega
   apply Go.WideShapes.bytes_inj
   rcases hj' with rfl|rfl|rfl|rfl|rfl|rfl <;> (simp at h2; rw[← h2]; rfl)
  rw[World.var?_cell gNames hvar j,← hs]
  simpa using h1
 refine⟨World.block_lt_of_cell? W _ (each 0 (by omega)),each⟩
theorem bytesRw:Tryd.prog.bytesOf 30=32:=by kernel_rfl
theorem cellsRw:Tryd.prog.cellsOf 30=4:=by kernel_rfl
theorem cellsI1:Tryd.prog.cellsOf 3=1:=by kernel_rfl
set_option maxRecDepth 100000 in
theorem rw_read {H:Type} {enc:TypeId×Value→H} {W:World} {base:Nat} {spare:Nat→Bool} {held:Bool} (fuel:Nat) (cs:List Value) (x:DataW H×List MemPlace) (h:DataW.trod enc Tryd.prog W base spare held fuel 30 cs=some x) :
  ∃r:Rw,cs=[.int .i64 r.kind,.int .i64 r.a,.int .i64 r.b,.int .i64 r.c]∧wfI r.kind∧wfI r.a∧wfI r.b∧wfI r.c:=by
 obtain⟨ys,n,_,_,hlen,hyl0,hf⟩:=DataW.trod_struct Tryd.underlying30 h
 rw[cellsRw] at hlen
 match cs,hlen with
 |[v0,v1,v2,v3],_=>
  have g0:DataW.trod enc Tryd.prog W base spare held n 3 (([v0,v1,v2,v3].drop 0).take (Tryd.prog.cellsOf 3))=ys[0]?:=hf 0 _ rfl
  have g1:DataW.trod enc Tryd.prog W base spare held n 3 (([v0,v1,v2,v3].drop 1).take (Tryd.prog.cellsOf 3))=ys[1]?:=hf 1 _ rfl
  have g2:DataW.trod enc Tryd.prog W base spare held n 3 (([v0,v1,v2,v3].drop 2).take (Tryd.prog.cellsOf 3))=ys[2]?:=hf 2 _ rfl
  have g3:DataW.trod enc Tryd.prog W base spare held n 3 (([v0,v1,v2,v3].drop 3).take (Tryd.prog.cellsOf 3))=ys[3]?:=hf 3 _ rfl
  rw[cellsI1] at g0 g1 g2 g3
  have hyl:ys.length=4:=hyl0
  obtain⟨y0,e0⟩:∃y,ys[0]? = some y:=⟨_,List.getElem?_eq_getElem (by omega)⟩
  obtain⟨y1,e1⟩:∃y,ys[1]? = some y:=⟨_,List.getElem?_eq_getElem (by omega)⟩
  obtain⟨y2,e2⟩:∃y,ys[2]? = some y:=⟨_,List.getElem?_eq_getElem (by omega)⟩
  obtain⟨y3,e3⟩:∃y,ys[3]? = some y:=⟨_,List.getElem?_eq_getElem (by omega)⟩
  obtain⟨a,ha,_,fa⟩:=DataW.trod_int Tryd.underlying3 (g0.trans e0)
  obtain⟨b,hb,_,fb⟩:=DataW.trod_int Tryd.underlying3 (g1.trans e1)
  obtain⟨c,hc,_,fc⟩:=DataW.trod_int Tryd.underlying3 (g2.trans e2)
  obtain⟨d,hd,_,fd⟩:=DataW.trod_int Tryd.underlying3 (g3.trans e3)
  simp at ha hb hc hd
  subst ha hb hc hd
  exact⟨⟨a,b,c,d⟩,rfl,fa,fb,fc,fd⟩
set_option maxRecDepth 100000 in
theorem lifted (os:Os) (started:os.Started) (H:Type) (enc:TypeId×Value→H) :
  ReturnsInHanded {} Tryd.checked os 3 .any (fun w args=>(Rows.ordersRightSpec.pre enc Tryd.prog Tryd.f3 [] false w args∧laidMetH Tryd.prog laidRows w)∧sizedMet enc Tryd.prog Tryd.f3 (OpenSpec.ofChange Rows.ordersRightSpec) false w args)
   (Rows.ordersRightSpec.post enc Tryd.prog Tryd.f3 false true false false):=by
 refine returnsInHanded_of_change_and (C:=Tryd.checked) (X:=fun w _=>laidMetH Tryd.prog laidRows w) (fun _ _ _ hh h=>h.of_heap hh) own started (by kernel_rfl) Tryd.func3
  (ChangeSpec.witness_shaped (enc:=enc) (C:=Tryd.checked) (os:=os) (X:=fun w _=>laidMetH Tryd.prog laidRows w) false (World.laidAll Tryd.prog os laidRows) #[.slice none 0 0] 8 rfl (World.shaped_of_ZipB (by kernel_rfl) (by kernel_rfl)) (by kernel_rfl) (by kernel_rfl) (by kernel_rfl) (laid_met os _)) ?_
 intro W base args ds gs before hval0 hW _ hsz hL _
 have hval:∀(j:Nat) t v,Tryd.f3.params[j]? = some t→args[j]? = some v→Value.okWide Tryd.prog W .any base t v:=hval0
 have hW':=hW
 obtain⟨p,q,hA0,hV,rfl,hfz,hnd⟩:=hW
 have hA:DataW.TrodAll enc Tryd.prog W 0 (fun _=>true) true Tryd.f3.params.toList args.toList ds p:=hA0
 rw[Tryd.params3] at hA hval hsz
 obtain⟨v0,vs0,d0,ds0,p0,q0,hargs0,rfl,rfl,h0,r0⟩:=trodAll_cons hA
 obtain⟨rfl,rfl,rfl⟩:=trodAll_nil r0
 obtain rfl:args=#[v0]:=by cases args; simp_all
 obtain⟨rfl,rfl⟩:=trodVars_none hV
 obtain⟨a0,len0,cap0,rfl⟩:=okWide_slice Tryd.underlying22 (hval 0 22 v0 rfl rfl)
 have k0:=h0
 have lt0:∀x∈p0,x.block<W.heap.size:=by obtain⟨m,hm⟩:=k0; exact DataW.trod_lt m _ _ _ hm
 have z0:∀n∈d0.weights Tryd.prog 22,n≤reachBytes:=fun n hn=>by
  have:=List.all_eq_true.1 hsz n (DataW.weights_mem_each (j:=0) (t:=22) (d:=d0) rfl rfl n hn)
  simpa using this
 obtain⟨l0,w0,b0⟩:∃l,SlAt (fun b=>b<W.heap.size) (RwAt W) 4 l (.slice a0 len0 cap0)∧l.length * 32≤reachBytes:=by
  obtain⟨fuel,hf⟩:=h0
  obtain⟨v,l,hv,hl,hb,_⟩:=sl_readZ (P:=RwAt W) (Q:=fun _=>True) Tryd.underlying22 cellsRw bytesRw (by omega) hf z0 (fun m' cs' x' b o hx' _ _ hl'=>by
   obtain⟨r,rfl,f0,f1,f2,f3⟩:=rw_read m' cs' x' hx'
   exact⟨r,⟨⟨hl'.2 0 (by simp),hl'.2 1 (by simp),hl'.2 2 (by simp),hl'.2 3 (by simp)⟩,f0,f1,f2,f3⟩,trivial⟩)
  have e:Value.slice a0 len0 cap0=v:=by simpa [Value.cells] using hv
  exact⟨l,by rw[e]; exact hl,hb⟩
 have hP:laidMet Tryd.prog laidRows W:=by
  rw[MakeChecks.laidMetH_plain _ _ _ (by kernel_rfl)] at hL
  exact hL
 clear hA0 hval0 hsz hL
 refine (walk _ l0 W w0 (by unfold reachBytes at b0; omega) (names_of_laid hP)).mono fun e W' ⟨he,bel⟩=>?_
 subst he
 exact⟨_,rfl,_,_,_,[],_,[],hW',trodAll_mk1 (shut_bool Tryd.underlying4 _),(trodAll_cons_mk (Below.trod laidOut (by kernel_rfl) (of_decide_eq_true (by kernel_rfl)) k0 bel lt0) trodAll_mk0),rfl,bel.frame _,fun h=>by cases h⟩
theorem over:Rows.OrdersRightSaid:=
 OpenClaim.holds_of_wide 3 Tryd.f3 rfl rfl rfl rfl rfl rfl rfl ⟨rfl,rfl,rfl,rfl,rfl⟩ rfl rfl rfl rfl rfl named Tryd.func3 closed inst wrap
  (fun os started H enc _=>lifted os started H enc)
theorem proved:Rows.OrdersRightCardSaid:=
 Claim7.holds_tied_plain_at .later [] [.data] true (true,"cb04e2d4f27873b7ddbedade7c49562d8937ae04711c9173ffa6a621e054f4df") false
  over (fun _ h=>by cases h) byText (fun _ h=>by cases h) ordersRight_row_tie rfl ⟨rfl,rfl⟩ mainOk rfl
  (fun f fn hf hfn=>by
   obtain rfl:f=3:=Option.some.inj (named.symm.trans hf) |>.symm
   obtain rfl:fn=Tryd.f3:=(Option.some.inj (Tryd.func3.symm.trans hfn)).symm
   exact⟨looksOk,fun j t ht=>by
    rw[Tryd.params3] at ht
    have hm:t∈[22]:=by simpa using Array.mem_of_getElem? ht
    exact (show Tryd.prog.wantsStandIn t=false by simpa using List.all_eq_true.1 standIns t hm)⟩)
  goesOk
#print axioms proved
end Go.Proofs.YtedpiamfpbdhoaaDoor.ordersRight
