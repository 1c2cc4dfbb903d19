import Derived.Test.YtedpiamfpbdhoaaGreatDoorJFg3
set_option maxHeartbeats 40000000
set_option maxRecDepth 100000
namespace Go.Proofs.YtedpiamfpbdhoaaGreatDoor
open Go.RowKit
theorem zfX:(Tryz.prog.info? 86).map (·.size)=some 5:=by kernel_rfl
theorem XS:(Tryz.prog.info? 72).map (·.size)=some 12:=by kernel_rfl
theorem Vi:(Tryz.prog.info? 72).map (fun i=>(i.zero,i.size,i.bytes))=some (some (.agg #[.string ⟨#[]⟩,.string ⟨#[]⟩,.slice none 0 0,.int .i64 0,.string ⟨#[]⟩,.string ⟨#[]⟩,.slice none 0 0,.int .i64 0,.int .i64 0,.string ⟨#[]⟩,.string ⟨#[]⟩,.slice none 0 0]),12,192):=by kernel_rfl
theorem VU (B:Nat) (ta:Option Addr) (tn tcap j:Nat) (w:World) (h:w.heap[B]? = some (.cells #[.slice ta tn tcap,.int .i64 j] 162 (0,0))) :
  Calls Tryz.prog 100 #[.pointer (some ⟨B,0,none⟩)] w fun e w'=>e=.returned (.int .i64 (if tn<=j then 0 else 4))/\Below w.heap.size w w':=by
 have c0:w.cell? ⟨B,0,none⟩=some (.slice ta tn tcap):=by rw[cell_of_row w B 0 _ _ _ h]; rfl
 have c1:w.cell? ⟨B,1,none⟩=some (.int .i64 j):=by rw[cell_of_row w B 1 _ _ _ h]; rfl
 clear h
 by_cases hj:tn<=j
 ·have hj':¬(j:Int)<(tn:Int):=by omega
  rw[if_pos hj];go_enter Tryz.func100,Tryz.ntmps100;go_wp2_with fail
  go_region
  all_goals
   go_wp2_with fail;go_ret;exact⟨rfl,(Below.refl _ _).drew⟩
 ·have hj':(j:Int)<(tn:Int):=by omega
  rw[if_neg hj];go_enter Tryz.func100,Tryz.ntmps100;go_wp2_with fail
  go_region
  all_goals
   go_wp2_with fail;go_ret;exact⟨rfl,(Below.refl _ _).drew⟩
theorem zdf (R:Int->World->Prop) (base M n1 bm br B:Nat) (cells:Array Value) (la:Option Addr) (lcap m:Nat) (xs:List Value) (nm:ByteArray) (k:Int) (f n:ByteArray) (va1:Option Addr) (va2 va3:Nat) (ta:Option Addr) (tn tcap j:Nat) (W:World)
  (hl:W.heap[M]? = some (.cells cells 41 (0,0))) (hcell:cells[1]? = some (.slice la m lcap)) (hown:W.ownsRow base 86 5 (.slice la m lcap) m xs) (hold:∀g,(Value.slice la m lcap).ownBlock=some g->g<n1) (hM:M<base) (hb1:base<=n1) (hn1:n1<=W.heap.size)
  (hn:m+1<=maxLen) (hb:(m+1) * 80<=140737488355328) (cm:W.cell? ⟨bm,0,none⟩=some (.pointer (some ⟨M,0,none⟩))) (cr:W.cell? ⟨br,0,none⟩=some (.pointer (some ⟨B,0,none⟩))) (hbm:n1<=bm) (hbr:n1<=br) (hB:n1<=B)
  (hrd:W.heap[B]? = some (.cells #[.slice ta tn tcap,.int .i64 j] 162 (0,0)))
  (hR:∀g cap w w',GrewM base M 1 cells 86 5 (.slice la m lcap) (.slice (some ⟨g,0,none⟩) (m+1) cap) (m+1) (xs++[.string nm,.int .i64 k,.string f,.string n,.slice va1 va2 va3]) W w->Below w.heap.size w w'->R (if tn<=j then 0 else 4) w') :
  Calls Tryz.prog 99 #[.agg #[.string nm,.int .i64 k,.string f,.string n,.slice va1 va2 va3],.pointer (some ⟨bm,0,none⟩),.pointer (some ⟨br,0,none⟩)] W (zQ R):=by
 obtain⟨i0,hi0,hz0,hz1,hz2⟩:=info_parts Vh;have HI0:=zd hi0;have HZ0:=zd hz0;have HZ1:=zd hz1;have HZ2:=zd hz2;have HL:=zd hl;have HCell:=zd hcell;have HOwn:=zd hown;have HOldR:=zd hold;have HM:=zd hM;have HB1:=zd hb1;have HN1:=zd hn1;have HNl:=zd hn;have HBy:=zd hb;have HR:=zd hR;have HRd:=zd hrd;have HCr:=zd cr;have hbmW:bm<W.heap.size:=World.block_lt_of_cell? W _ cm;have hbrW:br<W.heap.size:=World.block_lt_of_cell? W _ cr;have HCm:=zd cm;have hMW:M<W.heap.size:=by omega
 have hMm:bm≠M:=by omega
 have hMr:br≠M:=by omega
 have hMB:B≠M:=by omega
 have hBW:=vQ hrd;clear hl hcell hown hold hM hn hb hR hrd cr cm hb1 hn1 hi0 hz0 hz1 hz2;have m0:(0:Int)<=(m:Int):=Int.natCast_nonneg _;go_enter Tryz.func99,Tryz.ntmps99;go_wp2_with fail;refine Code.wp_mono (Q:=Zn fun a w=>∃g cap,a={ tmps:=#[.agg #[.string nm,.int .i64 k,.string f,.string n,.slice va1 va2 va3],.pointer (some ⟨bm,0,none⟩),.pointer (some ⟨br,0,none⟩),.pointer (some ⟨W.heap.size,0,none⟩),.int .i64 0,.pointer (some ⟨M,0,none⟩),.pointer (some ⟨M,0,none⟩),.pointer (some ⟨M,0,none⟩),.pointer (some ⟨M,1,none⟩),.slice la m lcap,.agg #[.string nm,.int .i64 k,.string f,.string n,.slice va1 va2 va3],.slice (some ⟨W.heap.size+1,0,none⟩) 1 1,.slice (some ⟨g,0,none⟩) (m+1) cap,.pointer (some ⟨M,0,none⟩),.pointer (some ⟨M,1,none⟩),undef,undef],defers:=[] }/\
   GrewM base M 1 cells 86 5 (.slice la m lcap) (.slice (some ⟨g,0,none⟩) (m+1) cap) (m+1) (xs++[.string nm,.int .i64 k,.string f,.string n,.slice va1 va2 va3]) W w) ?imp ?reg
 case imp=>
  intro e a w h
  cases e with
  |normal=>
   obtain⟨g,cap,rfl,hG⟩:=h;have hrow:∀k,n1<=k->some k≠(Value.slice la m lcap).ownBlock:=fun k hk e=>by have:=HOldR.out k e.symm; omega
   have HRes:=zd (fun w'=>HR.out g cap w w' hG);have c1:w.cell? ⟨br,0,none⟩=some (.pointer (some ⟨B,0,none⟩)):=(World.cell?_of_block (hG.rest br hbrW hMr (hrow br hbr))).trans HCr.out;have HRd1:Hid (w.heap[B]? = some (.cells #[.slice ta tn tcap,.int .i64 j] 162 (0,0))):=(hG.rest B hBW hMB (hrow B hB)).trans HRd.out;clear hG hrow;go_wp2_with fail;refine (VU B ta tn tcap j w HRd1.out).mono ?_;rintro e w' ⟨rfl,hb⟩;have HF:=zd (HRes.out w' hb);clear hb;generalize (if tn<=j then (0:Int) else 4)=y at *;go_wp2_with fail;go_ret;exact⟨_,rfl,HF.out⟩
  |_=>exact h.elim
 case reg=>
  have hcM:W.cell? ⟨M,1,none⟩=some (.slice la m lcap):=by rw[cell_of_row W M 1 _ _ _ HL.out]; exact HCell.out
  have hcl:(W.alloc (.cells #[.string nm,.int .i64 k,.string f,.string n,.slice va1 va2 va3] 86)).drew.cell? ⟨M,1,none⟩=some (.slice la m lcap):=by
   show (W.alloc _).cell? _=_;rw[World.cell?_alloc_old _ _ _ (by show M≠_; omega)]; exact hcM
  have hcl2:((W.alloc (.cells #[.string nm,.int .i64 k,.string f,.string n,.slice va1 va2 va3] 86)).alloc (.cells #[.string nm,.int .i64 k,.string f,.string n,.slice va1 va2 va3] 86)).drew.cell? ⟨M,1,none⟩=some (.slice la m lcap):=by
   show ((W.alloc _).alloc _).cell? _=_;rw[World.cell?_alloc_old _ _ _ (by show M≠_; simp; omega)];exact hcl
  have hx1:(W.alloc (.cells #[.string nm,.int .i64 k,.string f,.string n,.slice va1 va2 va3] 86)).rangeAt W.heap.size 0 [.string nm,.int .i64 k,.string f,.string n,.slice va1 va2 va3]:=by
   intro j u hu;rw[Nat.zero_add,World.cell?_alloc_new];simpa using hu
  have hm1:(W.alloc (.cells #[.string nm,.int .i64 k,.string f,.string n,.slice va1 va2 va3] 86)).cell? ⟨bm,0,none⟩=some (.pointer (some ⟨M,0,none⟩)):=by
   rw[World.cell?_alloc_old _ _ _ (by show bm≠_; omega)]; exact HCm.out
  have hm2:((W.alloc (.cells #[.string nm,.int .i64 k,.string f,.string n,.slice va1 va2 va3] 86)).alloc (.cells #[.string nm,.int .i64 k,.string f,.string n,.slice va1 va2 va3] 86)).cell? ⟨bm,0,none⟩=some (.pointer (some ⟨M,0,none⟩)):=by
   rw[World.cell?_alloc_old _ _ _ (by show bm≠_; simp; omega)]; exact hm1
  have HX1:Hid ((W.alloc (.cells #[.string nm,.int .i64 k,.string f,.string n,.slice va1 va2 va3] 86)).drew.rangeAt W.heap.size 0 [.string nm,.int .i64 k,.string f,.string n,.slice va1 va2 va3]/\(W.alloc (.cells #[.string nm,.int .i64 k,.string f,.string n,.slice va1 va2 va3] 86)).drew.cell? ⟨bm,0,none⟩=some (.pointer (some ⟨M,0,none⟩))):=⟨(World.rangeAt_drew _ _ _ _).2 hx1,hm1⟩
  have HX2:Hid (((W.alloc (.cells #[.string nm,.int .i64 k,.string f,.string n,.slice va1 va2 va3] 86)).alloc (.cells #[.string nm,.int .i64 k,.string f,.string n,.slice va1 va2 va3] 86)).drew.rangeAt W.heap.size 0 [.string nm,.int .i64 k,.string f,.string n,.slice va1 va2 va3]/\((W.alloc (.cells #[.string nm,.int .i64 k,.string f,.string n,.slice va1 va2 va3] 86)).alloc (.cells #[.string nm,.int .i64 k,.string f,.string n,.slice va1 va2 va3] 86)).drew.cell? ⟨bm,0,none⟩=some (.pointer (some ⟨M,0,none⟩))):=⟨(World.rangeAt_drew _ _ _ _).2 (World.rangeAt_alloc hx1 (.cells #[.string nm,.int .i64 k,.string f,.string n,.slice va1 va2 va3] 86)),hm2⟩
  clear hx1 hm1 hm2;have HNews:Hid (∀j u,([.string nm,.int .i64 k,.string f,.string n,.slice va1 va2 va3]:List Value)[j]? = some u->((W.alloc (.cells #[.string nm,.int .i64 k,.string f,.string n,.slice va1 va2 va3] 86)).alloc (.cells #[.string nm,.int .i64 k,.string f,.string n,.slice va1 va2 va3] 86)).drew.cell? ((⟨W.heap.size+1,0,none⟩:Addr).add j)=some u):=by
   refine World.news_of_block (cs:=#[.string nm,.int .i64 k,.string f,.string n,.slice va1 va2 va3]) (t:=86) (fr:=(0,0)) ?_;have h:=heap_alloc_new (W.alloc (.cells #[.string nm,.int .i64 k,.string f,.string n,.slice va1 va2 va3] 86)) (.cells #[.string nm,.int .i64 k,.string f,.string n,.slice va1 va2 va3] 86);rw[show (W.alloc (.cells #[.string nm,.int .i64 k,.string f,.string n,.slice va1 va2 va3] 86)).heap.size=W.heap.size+1 by simp] at h;exact h
  have HOne:Hid (∀u∈([.string nm,.int .i64 k,.string f,.string n,.slice va1 va2 va3]:List Value),u.oneCell'=true):=by
   have h:([.string nm,.int .i64 k,.string f,.string n,.slice va1 va2 va3]:List Value).all (·.oneCell')=true:=by simp[Value.oneCell']
   exact fun u hu=>List.all_eq_true.1 h u hu
  have HH:Hid (((W.alloc (.cells #[.string nm,.int .i64 k,.string f,.string n,.slice va1 va2 va3] 86)).alloc (.cells #[.string nm,.int .i64 k,.string f,.string n,.slice va1 va2 va3] 86)).drew.heap.size=W.heap.size+2):=by
   show ((W.alloc _).alloc _).heap.size=_;simp
  have HBs:Hid (base<=((W.alloc (.cells #[.string nm,.int .i64 k,.string f,.string n,.slice va1 va2 va3] 86)).alloc (.cells #[.string nm,.int .i64 k,.string f,.string n,.slice va1 va2 va3] 86)).drew.heap.size):=by show _<=_; rw[HH.out]; have:=HB1.out; have:=HN1.out; omega
  have HFarM:Hid (some M≠(Value.slice la m lcap).ownBlock):=fun h=>by have:=zk HOwn.out _ h.symm; have:=HM.out; omega
  have HFar:Hid (∀g,((Value.slice la m lcap).ownBlock=some g\/g=W.heap.size+2)->M≠g/\W.heap.size≠g):=by
   intro g h;have h1:=HM.out
   rcases h with h|h
   ·have:=zk HOwn.out _ h; omega
   ·omega
  have HOld:Hid (∀k',k'<W.heap.size->((W.alloc (.cells #[.string nm,.int .i64 k,.string f,.string n,.slice va1 va2 va3] 86)).alloc (.cells #[.string nm,.int .i64 k,.string f,.string n,.slice va1 va2 va3] 86)).drew.heap[k']? = W.heap[k']?):=by
   intro k' hk';show ((W.alloc _).alloc _).heap[k']? = _;rw[heap_alloc_old _ _ (by simp; omega),heap_alloc_old _ _ (by omega)]
  have HC2:Hid (∀w1,((W.alloc (.cells #[.string nm,.int .i64 k,.string f,.string n,.slice va1 va2 va3] 86)).alloc (.cells #[.string nm,.int .i64 k,.string f,.string n,.slice va1 va2 va3] 86)).drew.grownBy w1 (Value.slice la m lcap).ownBlock->w1.cell? ⟨M,1,none⟩=some (.slice la m lcap)/\w1.frozen? ⟨M,1,none⟩=false):=by
   intro w1 hg;have hb1:w1.heap[M]? = some (.cells cells 41 (0,0)):=(hg.block M (by rw[HH.out]; omega) HFarM.out).trans ((HOld.out M hMW).trans HL.out);exact⟨by rw[cell_of_row w1 M 1 _ _ _ hb1]; exact HCell.out,Lib.frozen_of_heap hb1 1⟩
  have HGr:Hid (∀g' cap' w1,w1.ownsRow base 86 5 (.slice (some ⟨g',0,none⟩) (m+1) cap') (m+1) (xs++[.string nm,.int .i64 k,.string f,.string n,.slice va1 va2 va3])->((W.alloc (.cells #[.string nm,.int .i64 k,.string f,.string n,.slice va1 va2 va3] 86)).alloc (.cells #[.string nm,.int .i64 k,.string f,.string n,.slice va1 va2 va3] 86)).drew.grownBy w1 (Value.slice la m lcap).ownBlock->((Value.slice la m lcap).ownBlock=some g'\/g'=W.heap.size+2)->GrewM base M 1 cells 86 5 (.slice la m lcap) (.slice (some ⟨g',0,none⟩) (m+1) cap') (m+1) (xs++[.string nm,.int .i64 k,.string f,.string n,.slice va1 va2 va3]) W (w1.setCell ⟨M,1,none⟩ (.slice (some ⟨g',0,none⟩) (m+1) cap'))):=fun g' cap' w1 ho hg hat=>
   xg (W0:=((W.alloc (.cells #[.string nm,.int .i64 k,.string f,.string n,.slice va1 va2 va3] 86)).alloc (.cells #[.string nm,.int .i64 k,.string f,.string n,.slice va1 va2 va3] 86)).drew) HM.out (Nat.le_trans HB1.out HN1.out) (by rw[HH.out]; omega) rfl rfl rfl HOld.out hg HL.out HFarM.out ho (hat.imp_right (fun h=>by omega))
  have HS1:Hid (∀w1,((W.alloc (.cells #[.string nm,.int .i64 k,.string f,.string n,.slice va1 va2 va3] 86)).alloc (.cells #[.string nm,.int .i64 k,.string f,.string n,.slice va1 va2 va3] 86)).drew.grownBy w1 (Value.slice la m lcap).ownBlock->w1.rangeAt W.heap.size 0 [.string nm,.int .i64 k,.string f,.string n,.slice va1 va2 va3]/\w1.cell? ⟨bm,0,none⟩=some (.pointer (some ⟨M,0,none⟩))):=by
   intro w1 hg;refine⟨fun j u hu=>?_,?_⟩
   ·rw[hg.cell_far _ (by rw[HH.out]; show W.heap.size<_; omega) (fun h=>by have:=zk HOwn.out _ h.symm; have h2:W.heap.size<W.heap.size:=this.2; omega)]
    exact HX2.out.1 j u hu
   ·rw[hg.cell_far _ (by rw[HH.out]; show bm<_; omega) (fun h=>by have:=HOldR.out _ h.symm; have h2:bm<n1:=this; omega)]
    exact HX2.out.2
  refine wp_region_held_drew (S:=fun w'=>w'.rangeAt W.heap.size 0 [.string nm,.int .i64 k,.string f,.string n,.slice va1 va2 va3]/\w'.cell? ⟨bm,0,none⟩=some (.pointer (some ⟨M,0,none⟩))) (by kernel_rfl) HX1.out (fun hHeld=>?_);refine zh 0 rfl rfl (by kernel_rfl) (by kernel_rfl) (by kernel_rfl) (fun _ _ _ h=>h) (v:=.pointer (some ⟨M,0,none⟩)) (Or.inl ⟨by rfl,fun w hSw=>by have hSm:=hSw.2; clear hSw; go_simp⟩) hHeld ?_;refine zh 1 rfl rfl (by kernel_rfl) (by kernel_rfl) (by kernel_rfl) (fun _ _ _ h=>h) (v:=.pointer (some ⟨M,0,none⟩)) (Or.inl ⟨by rfl,fun w hSw=>by have hSm:=hSw.2; clear hSw; go_simp⟩) hHeld ?_;refine zh 2 rfl rfl (by kernel_rfl) (by kernel_rfl) (by kernel_rfl) (fun _ _ _ h=>h) (v:=.pointer (some ⟨M,0,none⟩)) (Or.inl ⟨by rfl,fun w _=>by go_simp⟩) hHeld ?_;refine zh 3 rfl rfl (by kernel_rfl) (by kernel_rfl) (by kernel_rfl) (fun _ _ _ h=>h) (v:=.pointer (some ⟨M,1,none⟩)) (Or.inl ⟨by rfl,fun w _=>by go_simp⟩) hHeld ?_;refine zh 5 rfl rfl (by kernel_rfl) (by kernel_rfl) (by kernel_rfl) (fun _ _ _ h=>h) (yieldsIf_load_mid (by rfl) _ _ rfl _ _ rfl [.string nm,.int .i64 k,.string f,.string n,.slice va1 va2 va3] _ (fun _ h=>h.1) Tryz.underlying86 rfl zfX) hHeld ?_;refine xz 4 6 (by kernel_rfl) rfl rfl rfl rfl (fun K hK=>?_) (fun K hK=>?_)
  ·have HK:=zd hK
   clear hK
   go_simp
   refine HK.out _ _ HX1.out ?_;clear HK K;refine zg 6 (by kernel_rfl) rfl rfl (fun K hK=>?_);have HK:=zd hK;clear hK
   go_simp
   refine HK.out _ _ HX2.out ?_;clear HK K;refine zg 7 (by kernel_rfl) rfl rfl (fun K hK=>?_);refine wp_append_lies _ _ _ _ rfl base 86 i0 _ 5 80 Tryz.underlying38 HI0.out HZ0.out HZ1.out HZ2.out rfl (by omega) (.slice la m lcap) m xs rfl (((HOwn.out.alloc _).alloc _).drew) ⟨W.heap.size+1,0,none⟩ 1 1 [.string nm,.int .i64 k,.string f,.string n,.slice va1 va2 va3] rfl rfl HNews.out HOne.out (by omega) HNl.out HBy.out HBs.out (W.heap.size+2) HH.out (fun g cap w1 hown1 hgrow hat hlt=>?_);have hS1:=HS1.out w1 hgrow;refine hK _ _ hS1 ?_;clear hK K;obtain⟨hc2,hf2⟩:=HC2.out w1 hgrow;have HG:=zd (HGr.out g cap w1 hown1 hgrow hat);have HF:=zd (HFar.out g hat);have HSx:=zd hS1.1;have HSm:=zd hS1.2;clear hown1 hgrow;refine zh 8 rfl rfl (by kernel_rfl) (by kernel_rfl) (by kernel_rfl) (fun _ _ _ h=>h) (v:=.pointer (some ⟨M,0,none⟩)) (Or.inl ⟨by rfl,fun w _=>by go_simp⟩) hS1 ?_;refine zh 9 rfl rfl (by kernel_rfl) (by kernel_rfl) (by kernel_rfl) (fun _ _ _ h=>h) (v:=.pointer (some ⟨M,1,none⟩)) (Or.inl ⟨by rfl,fun w _=>by go_simp⟩) hS1 ?_;refine zg 10 (by kernel_rfl) rfl rfl (fun K hK=>?_);have HK:=zd hK;clear hK hS1
   go_simp
   refine HK.out _ _ ⟨fun j u hu=>?_,?_⟩ (wpAnyH_done (by kernel_rfl) ⟨g,cap,rfl,HG.out⟩ _)
   ·rw[World.cell?_setCell_other _ _ _ _ (by intro h; injection h with h _ _; omega)]
    exact HSx.out j u hu
   ·rw[World.cell?_setCell_other _ _ _ _ (by intro h; injection h with h _ _; omega)]
    exact HSm.out
  ·have HK:=zd hK
   clear hK
   go_simp
   refine HK.out _ _ HX2.out ?_;clear HK K;refine zg 4 (by kernel_rfl) rfl rfl (fun K hK=>?_);have HK:=zd hK;clear hK
   go_simp
   refine HK.out _ _ HX2.out ?_;clear HK K;refine zg 7 (by kernel_rfl) rfl rfl (fun K hK=>?_);refine wp_append_lies _ _ _ _ rfl base 86 i0 _ 5 80 Tryz.underlying38 HI0.out HZ0.out HZ1.out HZ2.out rfl (by omega) (.slice la m lcap) m xs rfl (((HOwn.out.alloc _).alloc _).drew) ⟨W.heap.size+1,0,none⟩ 1 1 [.string nm,.int .i64 k,.string f,.string n,.slice va1 va2 va3] rfl rfl HNews.out HOne.out (by omega) HNl.out HBy.out HBs.out (W.heap.size+2) HH.out (fun g cap w1 hown1 hgrow hat hlt=>?_);have hS1:=HS1.out w1 hgrow;refine hK _ _ hS1 ?_;clear hK K;obtain⟨hc2,hf2⟩:=HC2.out w1 hgrow;have HG:=zd (HGr.out g cap w1 hown1 hgrow hat);have HF:=zd (HFar.out g hat);have HSx:=zd hS1.1;have HSm:=zd hS1.2;clear hown1 hgrow;refine zh 8 rfl rfl (by kernel_rfl) (by kernel_rfl) (by kernel_rfl) (fun _ _ _ h=>h) (v:=.pointer (some ⟨M,0,none⟩)) (Or.inl ⟨by rfl,fun w _=>by go_simp⟩) hS1 ?_;refine zh 9 rfl rfl (by kernel_rfl) (by kernel_rfl) (by kernel_rfl) (fun _ _ _ h=>h) (v:=.pointer (some ⟨M,1,none⟩)) (Or.inl ⟨by rfl,fun w _=>by go_simp⟩) hS1 ?_;refine zg 10 (by kernel_rfl) rfl rfl (fun K hK=>?_);have HK:=zd hK;clear hK hS1
   go_simp
   refine HK.out _ _ ⟨fun j u hu=>?_,?_⟩ (wpAnyH_done (by kernel_rfl) ⟨g,cap,rfl,HG.out⟩ _)
   ·rw[World.cell?_setCell_other _ _ _ _ (by intro h; injection h with h _ _; omega)]
    exact HSx.out j u hu
   ·rw[World.cell?_setCell_other _ _ _ _ (by intro h; injection h with h _ _; omega)]
    exact HSm.out
theorem zdg (R:Int->World->Prop) (base M n1 bm br B:Nat) (cells:Array Value) (la:Option Addr) (lcap m:Nat) (xs:List Value) (nm vr:ByteArray) (vp1:Option Addr) (vp2 vp3:Nat) (k:Int) (f n:ByteArray) (va1:Option Addr) (va2 va3:Nat) (k' n':Int) (f' s':ByteArray) (ve1:Option Addr) (ve2 ve3:Nat) (ta:Option Addr) (tn tcap j:Nat) (W:World)
  (hl:W.heap[M]? = some (.cells cells 41 (0,0))) (hcell:cells[2]? = some (.slice la m lcap)) (hown:W.ownsRow base 72 12 (.slice la m lcap) m xs) (hold:∀g,(Value.slice la m lcap).ownBlock=some g->g<n1) (hM:M<base) (hb1:base<=n1) (hn1:n1<=W.heap.size)
  (hn:m+1<=maxLen) (hb:(m+1) * 192<=140737488355328) (cm:W.cell? ⟨bm,0,none⟩=some (.pointer (some ⟨M,0,none⟩))) (cr:W.cell? ⟨br,0,none⟩=some (.pointer (some ⟨B,0,none⟩))) (hbm:n1<=bm) (hbr:n1<=br) (hB:n1<=B)
  (hrd:W.heap[B]? = some (.cells #[.slice ta tn tcap,.int .i64 j] 162 (0,0)))
  (hR:∀g cap w w',GrewM base M 2 cells 72 12 (.slice la m lcap) (.slice (some ⟨g,0,none⟩) (m+1) cap) (m+1) (xs++[.string nm,.string vr,.slice vp1 vp2 vp3,.int .i64 k,.string f,.string n,.slice va1 va2 va3,.int .i64 k',.int .i64 n',.string f',.string s',.slice ve1 ve2 ve3]) W w->Below w.heap.size w w'->R (if tn<=j then 0 else 4) w') :
  Calls Tryz.prog 102 #[.agg #[.string nm,.string vr,.slice vp1 vp2 vp3,.int .i64 k,.string f,.string n,.slice va1 va2 va3,.int .i64 k',.int .i64 n',.string f',.string s',.slice ve1 ve2 ve3],.pointer (some ⟨bm,0,none⟩),.pointer (some ⟨br,0,none⟩)] W (zQ R):=by
 obtain⟨i0,hi0,hz0,hz1,hz2⟩:=info_parts Vi;have HI0:=zd hi0;have HZ0:=zd hz0;have HZ1:=zd hz1;have HZ2:=zd hz2;have HL:=zd hl;have HCell:=zd hcell;have HOwn:=zd hown;have HOldR:=zd hold;have HM:=zd hM;have HB1:=zd hb1;have HN1:=zd hn1;have HNl:=zd hn;have HBy:=zd hb;have HR:=zd hR;have HRd:=zd hrd;have HCr:=zd cr;have hbmW:bm<W.heap.size:=World.block_lt_of_cell? W _ cm;have hbrW:br<W.heap.size:=World.block_lt_of_cell? W _ cr;have HCm:=zd cm;have hMW:M<W.heap.size:=by omega
 have hMm:bm≠M:=by omega
 have hMr:br≠M:=by omega
 have hMB:B≠M:=by omega
 have hBW:=vQ hrd;clear hl hcell hown hold hM hn hb hR hrd cr cm hb1 hn1 hi0 hz0 hz1 hz2;have m0:(0:Int)<=(m:Int):=Int.natCast_nonneg _;go_enter Tryz.func102,Tryz.ntmps102;go_wp2_with fail;refine Code.wp_mono (Q:=Zn fun a w=>∃g cap,a={ tmps:=#[.agg #[.string nm,.string vr,.slice vp1 vp2 vp3,.int .i64 k,.string f,.string n,.slice va1 va2 va3,.int .i64 k',.int .i64 n',.string f',.string s',.slice ve1 ve2 ve3],.pointer (some ⟨bm,0,none⟩),.pointer (some ⟨br,0,none⟩),.pointer (some ⟨W.heap.size,0,none⟩),.int .i64 0,.pointer (some ⟨M,0,none⟩),.pointer (some ⟨M,0,none⟩),.pointer (some ⟨M,0,none⟩),.pointer (some ⟨M,2,none⟩),.slice la m lcap,.agg #[.string nm,.string vr,.slice vp1 vp2 vp3,.int .i64 k,.string f,.string n,.slice va1 va2 va3,.int .i64 k',.int .i64 n',.string f',.string s',.slice ve1 ve2 ve3],.slice (some ⟨W.heap.size+1,0,none⟩) 1 1,.slice (some ⟨g,0,none⟩) (m+1) cap,.pointer (some ⟨M,0,none⟩),.pointer (some ⟨M,2,none⟩),undef,undef],defers:=[] }/\
   GrewM base M 2 cells 72 12 (.slice la m lcap) (.slice (some ⟨g,0,none⟩) (m+1) cap) (m+1) (xs++[.string nm,.string vr,.slice vp1 vp2 vp3,.int .i64 k,.string f,.string n,.slice va1 va2 va3,.int .i64 k',.int .i64 n',.string f',.string s',.slice ve1 ve2 ve3]) W w) ?imp ?reg
 case imp=>
  intro e a w h
  cases e with
  |normal=>
   obtain⟨g,cap,rfl,hG⟩:=h;have hrow:∀k,n1<=k->some k≠(Value.slice la m lcap).ownBlock:=fun k hk e=>by have:=HOldR.out k e.symm; omega
   have HRes:=zd (fun w'=>HR.out g cap w w' hG);have c1:w.cell? ⟨br,0,none⟩=some (.pointer (some ⟨B,0,none⟩)):=(World.cell?_of_block (hG.rest br hbrW hMr (hrow br hbr))).trans HCr.out;have HRd1:Hid (w.heap[B]? = some (.cells #[.slice ta tn tcap,.int .i64 j] 162 (0,0))):=(hG.rest B hBW hMB (hrow B hB)).trans HRd.out;clear hG hrow;go_wp2_with fail;refine (VU B ta tn tcap j w HRd1.out).mono ?_;rintro e w' ⟨rfl,hb⟩;have HF:=zd (HRes.out w' hb);clear hb;generalize (if tn<=j then (0:Int) else 4)=y at *;go_wp2_with fail;go_ret;exact⟨_,rfl,HF.out⟩
  |_=>exact h.elim
 case reg=>
  have hcM:W.cell? ⟨M,2,none⟩=some (.slice la m lcap):=by rw[cell_of_row W M 2 _ _ _ HL.out]; exact HCell.out
  have hcl:(W.alloc (.cells #[.string nm,.string vr,.slice vp1 vp2 vp3,.int .i64 k,.string f,.string n,.slice va1 va2 va3,.int .i64 k',.int .i64 n',.string f',.string s',.slice ve1 ve2 ve3] 72)).drew.cell? ⟨M,2,none⟩=some (.slice la m lcap):=by
   show (W.alloc _).cell? _=_;rw[World.cell?_alloc_old _ _ _ (by show M≠_; omega)]; exact hcM
  have hcl2:((W.alloc (.cells #[.string nm,.string vr,.slice vp1 vp2 vp3,.int .i64 k,.string f,.string n,.slice va1 va2 va3,.int .i64 k',.int .i64 n',.string f',.string s',.slice ve1 ve2 ve3] 72)).alloc (.cells #[.string nm,.string vr,.slice vp1 vp2 vp3,.int .i64 k,.string f,.string n,.slice va1 va2 va3,.int .i64 k',.int .i64 n',.string f',.string s',.slice ve1 ve2 ve3] 72)).drew.cell? ⟨M,2,none⟩=some (.slice la m lcap):=by
   show ((W.alloc _).alloc _).cell? _=_;rw[World.cell?_alloc_old _ _ _ (by show M≠_; simp; omega)];exact hcl
  have hx1:(W.alloc (.cells #[.string nm,.string vr,.slice vp1 vp2 vp3,.int .i64 k,.string f,.string n,.slice va1 va2 va3,.int .i64 k',.int .i64 n',.string f',.string s',.slice ve1 ve2 ve3] 72)).rangeAt W.heap.size 0 [.string nm,.string vr,.slice vp1 vp2 vp3,.int .i64 k,.string f,.string n,.slice va1 va2 va3,.int .i64 k',.int .i64 n',.string f',.string s',.slice ve1 ve2 ve3]:=by
   intro j u hu;rw[Nat.zero_add,World.cell?_alloc_new];simpa using hu
  have hm1:(W.alloc (.cells #[.string nm,.string vr,.slice vp1 vp2 vp3,.int .i64 k,.string f,.string n,.slice va1 va2 va3,.int .i64 k',.int .i64 n',.string f',.string s',.slice ve1 ve2 ve3] 72)).cell? ⟨bm,0,none⟩=some (.pointer (some ⟨M,0,none⟩)):=by
   rw[World.cell?_alloc_old _ _ _ (by show bm≠_; omega)]; exact HCm.out
  have hm2:((W.alloc (.cells #[.string nm,.string vr,.slice vp1 vp2 vp3,.int .i64 k,.string f,.string n,.slice va1 va2 va3,.int .i64 k',.int .i64 n',.string f',.string s',.slice ve1 ve2 ve3] 72)).alloc (.cells #[.string nm,.string vr,.slice vp1 vp2 vp3,.int .i64 k,.string f,.string n,.slice va1 va2 va3,.int .i64 k',.int .i64 n',.string f',.string s',.slice ve1 ve2 ve3] 72)).cell? ⟨bm,0,none⟩=some (.pointer (some ⟨M,0,none⟩)):=by
   rw[World.cell?_alloc_old _ _ _ (by show bm≠_; simp; omega)]; exact hm1
  have HX1:Hid ((W.alloc (.cells #[.string nm,.string vr,.slice vp1 vp2 vp3,.int .i64 k,.string f,.string n,.slice va1 va2 va3,.int .i64 k',.int .i64 n',.string f',.string s',.slice ve1 ve2 ve3] 72)).drew.rangeAt W.heap.size 0 [.string nm,.string vr,.slice vp1 vp2 vp3,.int .i64 k,.string f,.string n,.slice va1 va2 va3,.int .i64 k',.int .i64 n',.string f',.string s',.slice ve1 ve2 ve3]/\(W.alloc (.cells #[.string nm,.string vr,.slice vp1 vp2 vp3,.int .i64 k,.string f,.string n,.slice va1 va2 va3,.int .i64 k',.int .i64 n',.string f',.string s',.slice ve1 ve2 ve3] 72)).drew.cell? ⟨bm,0,none⟩=some (.pointer (some ⟨M,0,none⟩))):=⟨(World.rangeAt_drew _ _ _ _).2 hx1,hm1⟩
  have HX2:Hid (((W.alloc (.cells #[.string nm,.string vr,.slice vp1 vp2 vp3,.int .i64 k,.string f,.string n,.slice va1 va2 va3,.int .i64 k',.int .i64 n',.string f',.string s',.slice ve1 ve2 ve3] 72)).alloc (.cells #[.string nm,.string vr,.slice vp1 vp2 vp3,.int .i64 k,.string f,.string n,.slice va1 va2 va3,.int .i64 k',.int .i64 n',.string f',.string s',.slice ve1 ve2 ve3] 72)).drew.rangeAt W.heap.size 0 [.string nm,.string vr,.slice vp1 vp2 vp3,.int .i64 k,.string f,.string n,.slice va1 va2 va3,.int .i64 k',.int .i64 n',.string f',.string s',.slice ve1 ve2 ve3]/\((W.alloc (.cells #[.string nm,.string vr,.slice vp1 vp2 vp3,.int .i64 k,.string f,.string n,.slice va1 va2 va3,.int .i64 k',.int .i64 n',.string f',.string s',.slice ve1 ve2 ve3] 72)).alloc (.cells #[.string nm,.string vr,.slice vp1 vp2 vp3,.int .i64 k,.string f,.string n,.slice va1 va2 va3,.int .i64 k',.int .i64 n',.string f',.string s',.slice ve1 ve2 ve3] 72)).drew.cell? ⟨bm,0,none⟩=some (.pointer (some ⟨M,0,none⟩))):=⟨(World.rangeAt_drew _ _ _ _).2 (World.rangeAt_alloc hx1 (.cells #[.string nm,.string vr,.slice vp1 vp2 vp3,.int .i64 k,.string f,.string n,.slice va1 va2 va3,.int .i64 k',.int .i64 n',.string f',.string s',.slice ve1 ve2 ve3] 72)),hm2⟩
  clear hx1 hm1 hm2;have HNews:Hid (∀j u,([.string nm,.string vr,.slice vp1 vp2 vp3,.int .i64 k,.string f,.string n,.slice va1 va2 va3,.int .i64 k',.int .i64 n',.string f',.string s',.slice ve1 ve2 ve3]:List Value)[j]? = some u->((W.alloc (.cells #[.string nm,.string vr,.slice vp1 vp2 vp3,.int .i64 k,.string f,.string n,.slice va1 va2 va3,.int .i64 k',.int .i64 n',.string f',.string s',.slice ve1 ve2 ve3] 72)).alloc (.cells #[.string nm,.string vr,.slice vp1 vp2 vp3,.int .i64 k,.string f,.string n,.slice va1 va2 va3,.int .i64 k',.int .i64 n',.string f',.string s',.slice ve1 ve2 ve3] 72)).drew.cell? ((⟨W.heap.size+1,0,none⟩:Addr).add j)=some u):=by
   refine World.news_of_block (cs:=#[.string nm,.string vr,.slice vp1 vp2 vp3,.int .i64 k,.string f,.string n,.slice va1 va2 va3,.int .i64 k',.int .i64 n',.string f',.string s',.slice ve1 ve2 ve3]) (t:=72) (fr:=(0,0)) ?_;have h:=heap_alloc_new (W.alloc (.cells #[.string nm,.string vr,.slice vp1 vp2 vp3,.int .i64 k,.string f,.string n,.slice va1 va2 va3,.int .i64 k',.int .i64 n',.string f',.string s',.slice ve1 ve2 ve3] 72)) (.cells #[.string nm,.string vr,.slice vp1 vp2 vp3,.int .i64 k,.string f,.string n,.slice va1 va2 va3,.int .i64 k',.int .i64 n',.string f',.string s',.slice ve1 ve2 ve3] 72);rw[show (W.alloc (.cells #[.string nm,.string vr,.slice vp1 vp2 vp3,.int .i64 k,.string f,.string n,.slice va1 va2 va3,.int .i64 k',.int .i64 n',.string f',.string s',.slice ve1 ve2 ve3] 72)).heap.size=W.heap.size+1 by simp] at h;exact h
  have HOne:Hid (∀u∈([.string nm,.string vr,.slice vp1 vp2 vp3,.int .i64 k,.string f,.string n,.slice va1 va2 va3,.int .i64 k',.int .i64 n',.string f',.string s',.slice ve1 ve2 ve3]:List Value),u.oneCell'=true):=by
   have h:([.string nm,.string vr,.slice vp1 vp2 vp3,.int .i64 k,.string f,.string n,.slice va1 va2 va3,.int .i64 k',.int .i64 n',.string f',.string s',.slice ve1 ve2 ve3]:List Value).all (·.oneCell')=true:=by simp[Value.oneCell']
   exact fun u hu=>List.all_eq_true.1 h u hu
  have HH:Hid (((W.alloc (.cells #[.string nm,.string vr,.slice vp1 vp2 vp3,.int .i64 k,.string f,.string n,.slice va1 va2 va3,.int .i64 k',.int .i64 n',.string f',.string s',.slice ve1 ve2 ve3] 72)).alloc (.cells #[.string nm,.string vr,.slice vp1 vp2 vp3,.int .i64 k,.string f,.string n,.slice va1 va2 va3,.int .i64 k',.int .i64 n',.string f',.string s',.slice ve1 ve2 ve3] 72)).drew.heap.size=W.heap.size+2):=by
   show ((W.alloc _).alloc _).heap.size=_;simp
  have HBs:Hid (base<=((W.alloc (.cells #[.string nm,.string vr,.slice vp1 vp2 vp3,.int .i64 k,.string f,.string n,.slice va1 va2 va3,.int .i64 k',.int .i64 n',.string f',.string s',.slice ve1 ve2 ve3] 72)).alloc (.cells #[.string nm,.string vr,.slice vp1 vp2 vp3,.int .i64 k,.string f,.string n,.slice va1 va2 va3,.int .i64 k',.int .i64 n',.string f',.string s',.slice ve1 ve2 ve3] 72)).drew.heap.size):=by show _<=_; rw[HH.out]; have:=HB1.out; have:=HN1.out; omega
  have HFarM:Hid (some M≠(Value.slice la m lcap).ownBlock):=fun h=>by have:=zk HOwn.out _ h.symm; have:=HM.out; omega
  have HFar:Hid (∀g,((Value.slice la m lcap).ownBlock=some g\/g=W.heap.size+2)->M≠g/\W.heap.size≠g):=by
   intro g h;have h1:=HM.out
   rcases h with h|h
   ·have:=zk HOwn.out _ h; omega
   ·omega
  have HOld:Hid (∀q',q'<W.heap.size->((W.alloc (.cells #[.string nm,.string vr,.slice vp1 vp2 vp3,.int .i64 k,.string f,.string n,.slice va1 va2 va3,.int .i64 k',.int .i64 n',.string f',.string s',.slice ve1 ve2 ve3] 72)).alloc (.cells #[.string nm,.string vr,.slice vp1 vp2 vp3,.int .i64 k,.string f,.string n,.slice va1 va2 va3,.int .i64 k',.int .i64 n',.string f',.string s',.slice ve1 ve2 ve3] 72)).drew.heap[q']? = W.heap[q']?):=by
   intro q' hk';show ((W.alloc _).alloc _).heap[q']? = _;rw[heap_alloc_old _ _ (by simp; omega),heap_alloc_old _ _ (by omega)]
  have HC2:Hid (∀w1,((W.alloc (.cells #[.string nm,.string vr,.slice vp1 vp2 vp3,.int .i64 k,.string f,.string n,.slice va1 va2 va3,.int .i64 k',.int .i64 n',.string f',.string s',.slice ve1 ve2 ve3] 72)).alloc (.cells #[.string nm,.string vr,.slice vp1 vp2 vp3,.int .i64 k,.string f,.string n,.slice va1 va2 va3,.int .i64 k',.int .i64 n',.string f',.string s',.slice ve1 ve2 ve3] 72)).drew.grownBy w1 (Value.slice la m lcap).ownBlock->w1.cell? ⟨M,2,none⟩=some (.slice la m lcap)/\w1.frozen? ⟨M,2,none⟩=false):=by
   intro w1 hg;have hb1:w1.heap[M]? = some (.cells cells 41 (0,0)):=(hg.block M (by rw[HH.out]; omega) HFarM.out).trans ((HOld.out M hMW).trans HL.out);exact⟨by rw[cell_of_row w1 M 2 _ _ _ hb1]; exact HCell.out,Lib.frozen_of_heap hb1 2⟩
  have HGr:Hid (∀g' cap' w1,w1.ownsRow base 72 12 (.slice (some ⟨g',0,none⟩) (m+1) cap') (m+1) (xs++[.string nm,.string vr,.slice vp1 vp2 vp3,.int .i64 k,.string f,.string n,.slice va1 va2 va3,.int .i64 k',.int .i64 n',.string f',.string s',.slice ve1 ve2 ve3])->((W.alloc (.cells #[.string nm,.string vr,.slice vp1 vp2 vp3,.int .i64 k,.string f,.string n,.slice va1 va2 va3,.int .i64 k',.int .i64 n',.string f',.string s',.slice ve1 ve2 ve3] 72)).alloc (.cells #[.string nm,.string vr,.slice vp1 vp2 vp3,.int .i64 k,.string f,.string n,.slice va1 va2 va3,.int .i64 k',.int .i64 n',.string f',.string s',.slice ve1 ve2 ve3] 72)).drew.grownBy w1 (Value.slice la m lcap).ownBlock->((Value.slice la m lcap).ownBlock=some g'\/g'=W.heap.size+2)->GrewM base M 2 cells 72 12 (.slice la m lcap) (.slice (some ⟨g',0,none⟩) (m+1) cap') (m+1) (xs++[.string nm,.string vr,.slice vp1 vp2 vp3,.int .i64 k,.string f,.string n,.slice va1 va2 va3,.int .i64 k',.int .i64 n',.string f',.string s',.slice ve1 ve2 ve3]) W (w1.setCell ⟨M,2,none⟩ (.slice (some ⟨g',0,none⟩) (m+1) cap'))):=fun g' cap' w1 ho hg hat=>
   xg (W0:=((W.alloc (.cells #[.string nm,.string vr,.slice vp1 vp2 vp3,.int .i64 k,.string f,.string n,.slice va1 va2 va3,.int .i64 k',.int .i64 n',.string f',.string s',.slice ve1 ve2 ve3] 72)).alloc (.cells #[.string nm,.string vr,.slice vp1 vp2 vp3,.int .i64 k,.string f,.string n,.slice va1 va2 va3,.int .i64 k',.int .i64 n',.string f',.string s',.slice ve1 ve2 ve3] 72)).drew) HM.out (Nat.le_trans HB1.out HN1.out) (by rw[HH.out]; omega) rfl rfl rfl HOld.out hg HL.out HFarM.out ho (hat.imp_right (fun h=>by omega))
  have HS1:Hid (∀w1,((W.alloc (.cells #[.string nm,.string vr,.slice vp1 vp2 vp3,.int .i64 k,.string f,.string n,.slice va1 va2 va3,.int .i64 k',.int .i64 n',.string f',.string s',.slice ve1 ve2 ve3] 72)).alloc (.cells #[.string nm,.string vr,.slice vp1 vp2 vp3,.int .i64 k,.string f,.string n,.slice va1 va2 va3,.int .i64 k',.int .i64 n',.string f',.string s',.slice ve1 ve2 ve3] 72)).drew.grownBy w1 (Value.slice la m lcap).ownBlock->w1.rangeAt W.heap.size 0 [.string nm,.string vr,.slice vp1 vp2 vp3,.int .i64 k,.string f,.string n,.slice va1 va2 va3,.int .i64 k',.int .i64 n',.string f',.string s',.slice ve1 ve2 ve3]/\w1.cell? ⟨bm,0,none⟩=some (.pointer (some ⟨M,0,none⟩))):=by
   intro w1 hg;refine⟨fun j u hu=>?_,?_⟩
   ·rw[hg.cell_far _ (by rw[HH.out]; show W.heap.size<_; omega) (fun h=>by have:=zk HOwn.out _ h.symm; have h2:W.heap.size<W.heap.size:=this.2; omega)]
    exact HX2.out.1 j u hu
   ·rw[hg.cell_far _ (by rw[HH.out]; show bm<_; omega) (fun h=>by have:=HOldR.out _ h.symm; have h2:bm<n1:=this; omega)]
    exact HX2.out.2
  refine wp_region_held_drew (S:=fun w'=>w'.rangeAt W.heap.size 0 [.string nm,.string vr,.slice vp1 vp2 vp3,.int .i64 k,.string f,.string n,.slice va1 va2 va3,.int .i64 k',.int .i64 n',.string f',.string s',.slice ve1 ve2 ve3]/\w'.cell? ⟨bm,0,none⟩=some (.pointer (some ⟨M,0,none⟩))) (by kernel_rfl) HX1.out (fun hHeld=>?_);refine zh 0 rfl rfl (by kernel_rfl) (by kernel_rfl) (by kernel_rfl) (fun _ _ _ h=>h) (v:=.pointer (some ⟨M,0,none⟩)) (Or.inl ⟨by rfl,fun w hSw=>by have hSm:=hSw.2; clear hSw; go_simp⟩) hHeld ?_;refine zh 1 rfl rfl (by kernel_rfl) (by kernel_rfl) (by kernel_rfl) (fun _ _ _ h=>h) (v:=.pointer (some ⟨M,0,none⟩)) (Or.inl ⟨by rfl,fun w hSw=>by have hSm:=hSw.2; clear hSw; go_simp⟩) hHeld ?_;refine zh 2 rfl rfl (by kernel_rfl) (by kernel_rfl) (by kernel_rfl) (fun _ _ _ h=>h) (v:=.pointer (some ⟨M,0,none⟩)) (Or.inl ⟨by rfl,fun w _=>by go_simp⟩) hHeld ?_;refine zh 3 rfl rfl (by kernel_rfl) (by kernel_rfl) (by kernel_rfl) (fun _ _ _ h=>h) (v:=.pointer (some ⟨M,2,none⟩)) (Or.inl ⟨by rfl,fun w _=>by go_simp⟩) hHeld ?_;refine zh 5 rfl rfl (by kernel_rfl) (by kernel_rfl) (by kernel_rfl) (fun _ _ _ h=>h) (yieldsIf_load_mid (by rfl) _ _ rfl _ _ rfl [.string nm,.string vr,.slice vp1 vp2 vp3,.int .i64 k,.string f,.string n,.slice va1 va2 va3,.int .i64 k',.int .i64 n',.string f',.string s',.slice ve1 ve2 ve3] _ (fun _ h=>h.1) Tryz.underlying72 rfl XS) hHeld ?_;refine xz 4 6 (by kernel_rfl) rfl rfl rfl rfl (fun K hK=>?_) (fun K hK=>?_)
  ·have HK:=zd hK
   clear hK
   go_simp
   refine HK.out _ _ HX1.out ?_;clear HK K;refine zg 6 (by kernel_rfl) rfl rfl (fun K hK=>?_);have HK:=zd hK;clear hK
   go_simp
   refine HK.out _ _ HX2.out ?_;clear HK K;refine zg 7 (by kernel_rfl) rfl rfl (fun K hK=>?_);refine wp_append_lies _ _ _ _ rfl base 72 i0 _ 12 192 Tryz.underlying39 HI0.out HZ0.out HZ1.out HZ2.out rfl (by omega) (.slice la m lcap) m xs rfl (((HOwn.out.alloc _).alloc _).drew) ⟨W.heap.size+1,0,none⟩ 1 1 [.string nm,.string vr,.slice vp1 vp2 vp3,.int .i64 k,.string f,.string n,.slice va1 va2 va3,.int .i64 k',.int .i64 n',.string f',.string s',.slice ve1 ve2 ve3] rfl rfl HNews.out HOne.out (by omega) HNl.out HBy.out HBs.out (W.heap.size+2) HH.out (fun g cap w1 hown1 hgrow hat hlt=>?_);have hS1:=HS1.out w1 hgrow;refine hK _ _ hS1 ?_;clear hK K;obtain⟨hc2,hf2⟩:=HC2.out w1 hgrow;have HG:=zd (HGr.out g cap w1 hown1 hgrow hat);have HF:=zd (HFar.out g hat);have HSx:=zd hS1.1;have HSm:=zd hS1.2;clear hown1 hgrow;refine zh 8 rfl rfl (by kernel_rfl) (by kernel_rfl) (by kernel_rfl) (fun _ _ _ h=>h) (v:=.pointer (some ⟨M,0,none⟩)) (Or.inl ⟨by rfl,fun w _=>by go_simp⟩) hS1 ?_;refine zh 9 rfl rfl (by kernel_rfl) (by kernel_rfl) (by kernel_rfl) (fun _ _ _ h=>h) (v:=.pointer (some ⟨M,2,none⟩)) (Or.inl ⟨by rfl,fun w _=>by go_simp⟩) hS1 ?_;refine zg 10 (by kernel_rfl) rfl rfl (fun K hK=>?_);have HK:=zd hK;clear hK hS1
   go_simp
   refine HK.out _ _ ⟨fun j u hu=>?_,?_⟩ (wpAnyH_done (by kernel_rfl) ⟨g,cap,rfl,HG.out⟩ _)
   ·rw[World.cell?_setCell_other _ _ _ _ (by intro h; injection h with h _ _; omega)]
    exact HSx.out j u hu
   ·rw[World.cell?_setCell_other _ _ _ _ (by intro h; injection h with h _ _; omega)]
    exact HSm.out
  ·have HK:=zd hK
   clear hK
   go_simp
   refine HK.out _ _ HX2.out ?_;clear HK K;refine zg 4 (by kernel_rfl) rfl rfl (fun K hK=>?_);have HK:=zd hK;clear hK
   go_simp
   refine HK.out _ _ HX2.out ?_;clear HK K;refine zg 7 (by kernel_rfl) rfl rfl (fun K hK=>?_);refine wp_append_lies _ _ _ _ rfl base 72 i0 _ 12 192 Tryz.underlying39 HI0.out HZ0.out HZ1.out HZ2.out rfl (by omega) (.slice la m lcap) m xs rfl (((HOwn.out.alloc _).alloc _).drew) ⟨W.heap.size+1,0,none⟩ 1 1 [.string nm,.string vr,.slice vp1 vp2 vp3,.int .i64 k,.string f,.string n,.slice va1 va2 va3,.int .i64 k',.int .i64 n',.string f',.string s',.slice ve1 ve2 ve3] rfl rfl HNews.out HOne.out (by omega) HNl.out HBy.out HBs.out (W.heap.size+2) HH.out (fun g cap w1 hown1 hgrow hat hlt=>?_);have hS1:=HS1.out w1 hgrow;refine hK _ _ hS1 ?_;clear hK K;obtain⟨hc2,hf2⟩:=HC2.out w1 hgrow;have HG:=zd (HGr.out g cap w1 hown1 hgrow hat);have HF:=zd (HFar.out g hat);have HSx:=zd hS1.1;have HSm:=zd hS1.2;clear hown1 hgrow;refine zh 8 rfl rfl (by kernel_rfl) (by kernel_rfl) (by kernel_rfl) (fun _ _ _ h=>h) (v:=.pointer (some ⟨M,0,none⟩)) (Or.inl ⟨by rfl,fun w _=>by go_simp⟩) hS1 ?_;refine zh 9 rfl rfl (by kernel_rfl) (by kernel_rfl) (by kernel_rfl) (fun _ _ _ h=>h) (v:=.pointer (some ⟨M,2,none⟩)) (Or.inl ⟨by rfl,fun w _=>by go_simp⟩) hS1 ?_;refine zg 10 (by kernel_rfl) rfl rfl (fun K hK=>?_);have HK:=zd hK;clear hK hS1
   go_simp
   refine HK.out _ _ ⟨fun j u hu=>?_,?_⟩ (wpAnyH_done (by kernel_rfl) ⟨g,cap,rfl,HG.out⟩ _)
   ·rw[World.cell?_setCell_other _ _ _ _ (by intro h; injection h with h _ _; omega)]
    exact HSx.out j u hu
   ·rw[World.cell?_setCell_other _ _ _ _ (by intro h; injection h with h _ _; omega)]
    exact HSm.out
theorem zcG:(Tryz.prog.info? 9).map (fun i=>(i.zero,i.size,i.bytes))=some (some (.string ⟨#[]⟩),1,16):=by kernel_rfl
theorem J3 {B:Nat} {l:zB} {i:Nat} {w:World} (h:zv B l i w):∃ta tcap,w.heap[B]? = some (.cells #[.slice ta l.length tcap,.int .i64 i] 162 (0,0)):=by
 obtain⟨tv,h1,⟨_,⟨rfl,a,cap,rfl⟩|⟨b,off,cap,rfl,_⟩⟩,_⟩:=h
 ·exact⟨a,cap,h1⟩
 ·exact⟨_,cap,h1⟩
theorem zfY (R:Int->World->Prop) (base M n1 B:Nat) (cells:Array Value) (la:Option Addr) (lcap m:Nat) (xs:List Value) (l:zB) (i:Nat) (w:World)
  (hr:zv B l i w) (hl:w.heap[M]? = some (.cells cells 41 (0,0))) (hcell:cells[0]? = some (.slice la m lcap)) (hown:w.ownsRow base 9 1 (.slice la m lcap) m xs) (hold:∀g,(Value.slice la m lcap).ownBlock=some g->g<n1) (hM:M<base) (hb1:base<=n1) (hB:n1<=B)
  (hn:m+1<=maxLen) (hb:(m+1) * 16<=140737488355328)
  (hbad:yM l i=none->∀w',Moved B w w'->R 4 w')
  (hok:∀t,yM l i=some t->t.size<=maxLen->∀g cap w1 w2 w',Moved B w w1->GrewM base M 0 cells 9 1 (.slice la m lcap) (.slice (some ⟨g,0,none⟩) (m+1) cap) (m+1) (xs++[.string t]) w1 w2->Below w2.heap.size w2 w'->R (if l.length<=i+1 then 0 else 4) w') :
  Calls Tryz.prog 97 #[.pointer (some ⟨B,0,none⟩),.pointer (some ⟨M,0,none⟩)] w (zQ R):=by
 obtain⟨i0,hi0,hz0,hz1,hz2⟩:=info_parts zcG;have HI0:=zd hi0;have HZ0:=zd hz0;have HZ1:=zd hz1;have HZ2:=zd hz2;have HL:=zd hl;have HCell:=zd hcell;have HOwn:=zd hown;have HOldR:=zd hold;have HM:=zd hM;have HB1:=zd hb1;have HNl:=zd hn;have HBy:=zd hb;have HBad:=zd hbad;have HOk:=zd hok;have HH:=zd hr;have hBw:=xC hr;have hMB:B≠M:=by omega
 clear hl hcell hown hold hn hb hbad hok hr hi0 hz0 hz1 hz2;go_enter Tryz.func97,Tryz.ntmps97;go_wp2_with fail;refine (km B l i w HH.out).mono ?_;rintro e w1 ⟨hm,⟨hi,t,i',rfl,hr⟩|⟨t,hi,hok,rfl,hr⟩⟩
 ·have HB:=zd (HBad.out hi w1 hm)
  clear hm hi hr HBad HOk;go_wp2_with fail;go_ret;exact⟨_,rfl,HB.out⟩
 ·have hsz:=hm.below.size
  have HRes:=zd (fun g cap w2 w'=>HOk.out t hi (ZL hok) g cap w1 w2 w' hm);have hl1:w1.heap[M]? = some (.cells cells 41 (0,0)):=(hm.below.block M (by omega)).trans HL.out;have HL1:=zd hl1;have HOwn1:Hid (w1.ownsRow base 9 1 (.slice la m lcap) m xs):=by
   refine⟨HOwn.out.1,HOwn.out.2.imp_right ?_⟩;rintro ⟨g,cap,cur,e,hb,hg,hr⟩;exact⟨g,cap,cur,e,hb,(hm.below.block g (by have:=HOldR.out g (by rw[e]; rfl); omega)).trans hg,hr⟩
  obtain⟨ta,tcap,hrd⟩:=J3 hr;have HRd:=zd hrd;have hMW:M<w1.heap.size:=by omega
  have hcM:w1.cell? ⟨M,0,none⟩=some (.slice la m lcap):=by rw[cell_of_row w1 M 0 _ _ _ hl1]; exact HCell.out
  have HHs:Hid ((w1.alloc (.cells #[.string t] 9)).heap.size=w1.heap.size+1):=by show _=_; simp
  have HBs:Hid (base<=(w1.alloc (.cells #[.string t] 9)).heap.size):=by show _<=_; rw[HHs.out]; omega
  have HFarM:Hid (some M≠(Value.slice la m lcap).ownBlock):=fun h=>by have:=zk HOwn.out _ h.symm; omega
  have HOld:Hid (∀k',k'<w1.heap.size->(w1.alloc (.cells #[.string t] 9)).heap[k']? = w1.heap[k']?):=fun k' hk'=>heap_alloc_old _ _ hk'
  have HNews:Hid (∀j u,([.string t]:List Value)[j]? = some u->(w1.alloc (.cells #[.string t] 9)).cell? ((⟨w1.heap.size,0,none⟩:Addr).add j)=some u):=
   World.news_of_block (cs:=#[.string t]) (t:=9) (fr:=(0,0)) (heap_alloc_new w1 _)
  have HOne:Hid (∀u∈([.string t]:List Value),u.oneCell'=true):=by intro u hu; simp at hu; subst hu; rfl
  have HC2:Hid (∀w2,(w1.alloc (.cells #[.string t] 9)).grownBy w2 (Value.slice la m lcap).ownBlock->w2.cell? ⟨M,0,none⟩=some (.slice la m lcap)/\w2.frozen? ⟨M,0,none⟩=false):=by
   intro w2 hg;have hb1:w2.heap[M]? = some (.cells cells 41 (0,0)):=(hg.block M (by rw[HHs.out]; omega) HFarM.out).trans ((HOld.out M hMW).trans HL1.out);exact⟨by rw[cell_of_row w2 M 0 _ _ _ hb1]; exact HCell.out,Lib.frozen_of_heap hb1 0⟩
  have HGr:Hid (∀g' cap' w2,w2.ownsRow base 9 1 (.slice (some ⟨g',0,none⟩) (m+1) cap') (m+1) (xs++[.string t])->(w1.alloc (.cells #[.string t] 9)).grownBy w2 (Value.slice la m lcap).ownBlock->((Value.slice la m lcap).ownBlock=some g'\/g'=w1.heap.size+1)->GrewM base M 0 cells 9 1 (.slice la m lcap) (.slice (some ⟨g',0,none⟩) (m+1) cap') (m+1) (xs++[.string t]) w1 (w2.setCell ⟨M,0,none⟩ (.slice (some ⟨g',0,none⟩) (m+1) cap'))):=fun g' cap' w2 ho hg hat=>
   xg (W0:=w1.alloc (.cells #[.string t] 9)) HM.out (by omega) (by rw[HHs.out]; omega) rfl rfl rfl HOld.out hg HL1.out HFarM.out ho (hat.imp_right (fun h=>by omega))
  clear hm hi hr hok hrd hl1 HBad HOk;go_wp2_with (at_builtin; refine wpList_append_lies _ rfl _ _ 37 rfl base 9 i0 _ 1 16 Tryz.underlying37 HI0.out HZ0.out HZ1.out HZ2.out rfl (by decide) (.slice la m lcap) m xs rfl (HOwn1.out.alloc _) ⟨w1.heap.size,0,none⟩ 1 1 [.string t] rfl rfl HNews.out HOne.out (by decide) HNl.out HBy.out HBs.out (w1.heap.size+1) HHs.out (fun g' cap' w2 hown2 hgrow hat hlt=>?_); obtain⟨hc2,hf2⟩:=HC2.out w2 hgrow; have HG:=zd (HGr.out g' cap' w2 hown2 hgrow hat); clear hown2 hgrow hat hlt);have HRd2:Hid ((w2.setCell ⟨M,0,none⟩ (.slice (some ⟨g',0,none⟩) (m+1) cap')).heap[B]? = some (.cells #[.slice ta l.length tcap,.int .i64 ((i+1:Nat):Int)] 162 (0,0))):=
   (HG.out.rest B (by omega) hMB (fun e=>by have:=HOldR.out B e.symm; omega)).trans HRd.out
  have HRes2:=zd (fun w'=>HRes.out g' cap' _ w' HG.out);clear HG HRes;generalize w2.setCell ⟨M,0,none⟩ (.slice (some ⟨g',0,none⟩) (m+1) cap')=w3 at *;refine (VU B ta l.length tcap (i+1) w3 HRd2.out).mono ?_;rintro e w' ⟨rfl,hb⟩;have HF:=zd (HRes2.out w' hb);clear hb;generalize (if l.length<=i+1 then (0:Int) else 4)=y at *;go_wp2_with fail;go_ret;exact⟨_,rfl,HF.out⟩
end Go.Proofs.YtedpiamfpbdhoaaGreatDoor
