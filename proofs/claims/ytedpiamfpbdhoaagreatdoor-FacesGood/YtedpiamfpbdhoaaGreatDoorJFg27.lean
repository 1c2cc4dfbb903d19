import Derived.Test.YtedpiamfpbdhoaaGreatDoorJFg26
set_option maxHeartbeats 40000000
set_option maxRecDepth 100000
namespace Go.Proofs.YtedpiamfpbdhoaaGreatDoor
open Go.RowKit
def Qp (m:Mo) (l:List Im) (k:Nat):List Kn:=match m.funcs[k]? with
 |some f=>xW f.params (vh m l k).params
 |none=>[]
def jl (m:Mo) (l:List Im) (own:Fc) (k:Nat):ByteArray×Int:=match m.funcs[k]? with
 |some f=>qk (Qp m l k) (vy m l own) f.body
 |none=>xq 6
def yL (m:Mo) (l:List Im) (own:Fc) (k:Nat):Int:=
 if qg m l k=0 then (if (jl m l own k).2=0 then (if sEq (jl m l own k).1 (vh m l k).result=true then 0 else 8) else (jl m l own k).2) else qg m l k
theorem zab {m:Mo} {l:List Im} {k:Nat} (h:k<m.funcs.length):Qp m l k=xW m.funcs[k].params (vh m l k).params:=by
 unfold Qp;rw[List.getElem?_eq_getElem h]
theorem zac {m:Mo} {l:List Im} {own:Fc} {k:Nat} (h:k<m.funcs.length):jl m l own k=qk (Qp m l k) (vy m l own) m.funcs[k].body:=by
 unfold jl;rw[List.getElem?_eq_getElem h]
theorem zhP {m:Mo} {l:List Im} {k:Nat} (h:k<m.funcs.length) (h0:qg m l k=0):(vh m l k).params.length=m.funcs[k].params.length:=by
 obtain⟨h1,h2⟩:=kz (l:=l) h;rw[h1] at h0
 cases hh:jJ (m.funcs.take k) m.funcs[k].name with
 |true=>rw[hh,if_pos rfl] at h0; cases h0
 |false=>
  rw[hh,if_neg (by decide)] at h0 h2;rw[h2,kT,if_pos h0];exact List.length_map ..
theorem zfB {m:Mo} {l:List Im} {k:Nat} (hz:∀i∈l,zH i.face) (h:k<m.funcs.length):∀t∈(vh m l k).params,t.size<=281474976710656:=by
 obtain⟨h1,h2⟩:=kz (l:=l) h;rw[h2];intro t ht
 split at ht
 ·cases ht
 ·unfold kT at ht
  split at ht
  ·obtain⟨p,_,rfl⟩:=List.mem_map.1 ht
   exact zhK hz _ _
  ·cases ht
theorem zd6 {m:Mo} {l:List Im} {k:Nat} {fc:ByteArray->Fc} (hz:∀i∈l,zH i.face) (h:k<m.funcs.length):∀x,(qk (Qp m l k) fc x).1.size<=281474976710656:=by
 refine zc1 (by omega) fun q hq=>?_
 rw[zab h] at hq;obtain⟨z,hz',rfl⟩:=List.mem_map.1 hq;exact zfB hz h _ (List.of_mem_zip hz').2
theorem zhQ {m:Mo} (h:zI m=0):∀f∈m.funcs,zx f.body 1=0:=by
 unfold zI at h
 by_cases hc:24<wrap64 (wrap64 ((m.uses.length:Int)+m.types.length)+m.funcs.length)
 ·rw[if_pos hc] at h; exact absurd h (by decide)
 ·rw[if_neg hc] at h
  by_cases hu:zt qx m.uses≠0
  ·rw[if_pos hu] at h; exact absurd h hu
  ·rw[if_neg hu] at h
   by_cases ht:zt zF m.types≠0
   ·rw[if_pos ht] at h; exact absurd h ht
   ·rw[if_neg ht] at h
    intro f hf;obtain⟨k,hk,rfl⟩:=List.getElem_of_mem hf;have h2:=qN xw m.funcs h k hk;unfold xw at h2
    by_cases h1:zf (m.funcs[k]).name=false\/zD (m.funcs[k]).var=false
    ·rw[if_pos h1] at h2; exact absurd h2 (by decide)
    ·rw[if_neg h1] at h2
     by_cases h3:8<(m.funcs[k]).params.length
     ·rw[if_pos h3] at h2; exact absurd h2 (by decide)
     ·rw[if_neg h3] at h2
      by_cases h4:zt zF (m.funcs[k]).params≠0
      ·rw[if_pos h4] at h2; exact absurd h2 h4
      ·rw[if_neg h4] at h2
       by_cases h5:zl (m.funcs[k]).result 1≠0
       ·rw[if_pos h5] at h2; exact absurd h2 h5
       ·rw[if_neg h5] at h2; exact h2
theorem zd7 (v u:Value) (w:World) (hv:∃a b c,v=.slice a b c) (hu:∃a b c,u=.slice a b c) :
  Calls Tryz.prog 193 #[v,u] w fun e w'=>e=.returned (.func (.func 267) #[] #[.pointer (some ⟨w.heap.size,0,none⟩),.pointer (some ⟨w.heap.size+1,0,none⟩)])/\Below w.heap.size w w'/\w'.heap.size=w.heap.size+2/\w'.cell? ⟨w.heap.size,0,none⟩=some v/\w'.cell? ⟨w.heap.size+1,0,none⟩=some u:=by
 obtain⟨a,b,c,rfl⟩:=hv;obtain⟨a2,b2,c2,rfl⟩:=hu;go_enter Tryz.func193,Tryz.ntmps193;go_wp2_with fail;go_ret;exact⟨rfl,((Below.refl _ _).alloc (Nat.le_refl _) _).alloc (by simp) _,by simp,by simp[go_sem],by simp[go_sem]⟩
theorem zaG (u1 t1 f1 la o1 o4:Option Addr) (u2 u3 t2 t3 f2 f3 ln lc o2 o3 o5 o6:Nat) (w:World) :
  Calls Tryz.prog 194 #[.agg #[.slice u1 u2 u3,.slice t1 t2 t3,.slice f1 f2 f3],.slice la ln lc,.agg #[.slice o1 o2 o3,.slice o4 o5 o6]] w fun e w'=>e=.returned (.func (.func 269) #[] #[.pointer (some ⟨w.heap.size+2,0,none⟩),.pointer (some ⟨w.heap.size,0,none⟩),.pointer (some ⟨w.heap.size+1,0,none⟩)])/\Below w.heap.size w w'/\w'.heap.size=w.heap.size+3/\
   w'.cell? ⟨w.heap.size+2,0,none⟩=some (.slice o1 o2 o3)/\w'.cell? ⟨w.heap.size+2,1,none⟩=some (.slice o4 o5 o6)/\w'.cell? ⟨w.heap.size,0,none⟩=some (.slice u1 u2 u3)/\w'.cell? ⟨w.heap.size,1,none⟩=some (.slice t1 t2 t3)/\w'.cell? ⟨w.heap.size,2,none⟩=some (.slice f1 f2 f3)/\w'.cell? ⟨w.heap.size+1,0,none⟩=some (.slice la ln lc):=by
 go_enter Tryz.func194,Tryz.ntmps194;go_wp2_with fail;go_ret;exact⟨rfl,(((Below.refl _ _).alloc (Nat.le_refl _) _).alloc (by simp) _).alloc (by simp; omega) _,by simp,by simp[go_sem],by simp[go_sem],by simp[go_sem],by simp[go_sem],by simp[go_sem],by simp[go_sem]⟩
structure NamesAt (W5 W8:World) (nB lB kB oB mB iB:Nat) (p q u t f lv o1 o2:Value):Prop where
 bel:Below W5.heap.size W5 W8
 n0:W8.cell? ⟨nB,0,none⟩=some (.func (.func 267) #[] #[.pointer (some ⟨lB,0,none⟩),.pointer (some ⟨kB,0,none⟩)])
 n1:W8.cell? ⟨nB,1,none⟩=some (.func (.func 269) #[] #[.pointer (some ⟨oB,0,none⟩),.pointer (some ⟨mB,0,none⟩),.pointer (some ⟨iB,0,none⟩)])
 l0:W8.cell? ⟨lB,0,none⟩=some p
 k0:W8.cell? ⟨kB,0,none⟩=some q
 o0:W8.cell? ⟨oB,0,none⟩=some o1
 o1:W8.cell? ⟨oB,1,none⟩=some o2
 m0:W8.cell? ⟨mB,0,none⟩=some u
 m1:W8.cell? ⟨mB,1,none⟩=some t
 m2:W8.cell? ⟨mB,2,none⟩=some f
 i0:W8.cell? ⟨iB,0,none⟩=some lv
theorem Yl (m:Mo) (l:List Im) (own:Fc) (ps:List Fd) (ks:List ByteArray) (x:Ex) {v p:Value} {W5 W8:World} {nB lB kB oB mB iB:Nat} {u1 t1 f1 la o1 o4 xa:Option Addr} {u2 u3 t2 t3 f2 f3 ln lc o2 o3 o5 o6 xn xc:Nat}
  (hN:NamesAt W5 W8 nB lB kB oB mB iB p (.slice xa xn xc) (.slice u1 u2 u3) (.slice t1 t2 t3) (.slice f1 f2 f3) (.slice la ln lc) (.slice o1 o2 o3) (.slice o4 o5 o6))
  (hm:qT (fun b=>b<W8.heap.size) W8 m (.agg #[.slice u1 u2 u3,.slice t1 t2 t3,.slice f1 f2 f3])) (hl:ze (fun b=>b<W8.heap.size) (yd (fun b=>b<W8.heap.size) W8) 4 l (.slice la ln lc)) (ho:qC (fun b=>b<W8.heap.size) W8 own (.agg #[.slice o1 o2 o3,.slice o4 o5 o6])) (hps:ze (fun b=>b<W8.heap.size) (qO (fun b=>b<W8.heap.size) W8) 5 ps p) (hks:ze (fun b=>b<W8.heap.size) (zG W8) 1 ks (.slice xa xn xc)) (hlen:ks.length=ps.length) (hx:yC (fun b=>b<W8.heap.size) W8 x v)
  (hz:∀i∈l,zH i.face) (hzo:zH own) (hx0:zx x 1=0) (hSz:∀x,(qk (xW ps ks) (vy m l own) x).1.size<=281474976710656) :
  Calls Tryz.prog 195 #[.agg #[.func (.func 267) #[] #[.pointer (some ⟨lB,0,none⟩),.pointer (some ⟨kB,0,none⟩)],.func (.func 269) #[] #[.pointer (some ⟨oB,0,none⟩),.pointer (some ⟨mB,0,none⟩),.pointer (some ⟨iB,0,none⟩)]],v] W8 (jk (xW ps ks) (vy m l own) x W8):=by
 have hK:∀W,Below W8.heap.size W8 W->Keeps (fun b=>b<W8.heap.size) (fun b=>b<W8.heap.size) W8 W:=fun W hW=>Keeps.below hW (fun _ h=>h)
 have hC:∀W,Below W8.heap.size W8 W->∀(a:Addr) y,W8.cell? a=some y->W.cell? a=some y:=fun W hW a y h=>(hW.cell (World.block_lt_of_cell? _ _ h)).trans h
 have hL:∀W,Below W8.heap.size W8 W->∀b,b<W8.heap.size->b<W.heap.size:=fun W hW b hb=>Nat.lt_of_lt_of_le hb hW.size
 refine zbR (fun b=>b<W8.heap.size) (xW ps ks) (vy m l own) lB kB oB mB iB W8 (fun _ h=>h) (fun W s hW=>?_) (fun W o s hW=>?_) hSz 10 1 (by omega) x v W8 (Below.refl _ _) hx0 hx
 ·refine (zhL (fun b=>b<W8.heap.size) ps ks s _ _ lB kB W (hL W hW) (zP (hK W hW) hps) (zU (hK W hW) hks) hlen (hC W hW _ _ hN.l0) (hC W hW _ _ hN.k0)).mono ?_
  rintro e w' ⟨rfl,hb⟩;exact⟨rfl,hb⟩
 ·exact zhM (fun b=>b<W8.heap.size) m l own o s u1 t1 f1 la o1 o4 u2 u3 t2 t3 f2 f3 ln lc o2 o3 o5 o6 oB mB iB W (hL W hW) (hm.keep (hK W hW)) (qd (hK W hW) hl) (ho.keep (hK W hW)) hz hzo (hC W hW _ _ hN.o0) (hC W hW _ _ hN.o1) (hC W hW _ _ hN.m0) (hC W hW _ _ hN.m1) (hC W hW _ _ hN.m2) (hC W hW _ _ hN.i0)
def vW (F G M:Nat) (p q u t f o1 o2:Value) (wr W:World):Prop:=Below wr.heap.size wr W/\W.cell? ⟨F,2,none⟩=some p/\W.cell? ⟨G,1,none⟩=some q/\W.cell? ⟨M,0,none⟩=some u/\W.cell? ⟨M,1,none⟩=some t/\W.cell? ⟨M,2,none⟩=some f/\W.cell? ⟨M+1,0,none⟩=some o1/\W.cell? ⟨M+1,1,none⟩=some o2
theorem vW.below {F G M:Nat} {p q u t f o1 o2:Value} {wr W:World} (h:vW F G M p q u t f o1 o2 wr W):Below wr.heap.size wr W:=h.1
theorem vW.later {F G M:Nat} {p q u t f o1 o2:Value} {wr W W':World} (h:vW F G M p q u t f o1 o2 wr W) (hb:Below W.heap.size W W'):vW F G M p q u t f o1 o2 wr W':=by
 obtain⟨h0,h1,h2,h3,h4,h5,h6,h7⟩:=h;have hk:∀(a:Addr) v,W.cell? a=some v->W'.cell? a=some v:=fun a v hv=>(hb.cell (World.block_lt_of_cell? _ _ hv)).trans hv
 exact⟨h0.trans (hb.mono h0.size),hk _ _ h1,hk _ _ h2,hk _ _ h3,hk _ _ h4,hk _ _ h5,hk _ _ h6,hk _ _ h7⟩
theorem vW.box {F G M:Nat} {p q u t f o1 o2:Value} {wr W:World} {x:Obj} (h:vW F G M p q u t f o1 o2 wr W):vW F G M p q u t f o1 o2 wr (W.alloc x):=h.later ((Below.refl _ _).alloc (Nat.le_refl _) _)
theorem vW.swap {F G M:Nat} {p q u t f o1 o2:Value} {wr W:World} {x y:Obj} (h:vW F G M p q u t f o1 o2 wr (W.alloc x)) (hl:wr.heap.size<=W.heap.size) (hF:F<wr.heap.size) (hG:G<wr.heap.size) (hM:M+1<wr.heap.size):vW F G M p q u t f o1 o2 wr (W.alloc y):=by
 obtain⟨h0,h1,h2,h3,h4,h5,h6,h7⟩:=h;have e:∀c,c<wr.heap.size->(W.alloc y).heap[c]? = (W.alloc x).heap[c]?:=fun c hc=>by
  rw[heap_alloc_old _ _ (by omega),heap_alloc_old _ _ (by omega)]
 have hM0:M<wr.heap.size:=by omega
 refine⟨⟨h0.os,h0.tape,h0.output,by simp; omega,fun c hc=>(e c hc).trans (h0.block c hc)⟩,?_,?_,?_,?_,?_,?_,?_⟩
 ·rw[World.cell?_of_block (e F hF)]; exact h1
 ·rw[World.cell?_of_block (e G hG)]; exact h2
 ·rw[World.cell?_of_block (e M hM0)]; exact h3
 ·rw[World.cell?_of_block (e M hM0)]; exact h4
 ·rw[World.cell?_of_block (e M hM0)]; exact h5
 ·rw[World.cell?_of_block (e (M+1) hM)]; exact h6
 ·rw[World.cell?_of_block (e (M+1) hM)]; exact h7
theorem vW.sets {F G M g:Nat} {p q u t f o1 o2 a b:Value} {wr W:World} (h:vW F G M p q u t f o1 o2 wr W) (hg:wr.heap.size<=g) (hF:F<wr.heap.size) (hG:G<wr.heap.size) (hM:M+1<wr.heap.size):vW F G M p q u t f o1 o2 wr ((W.setCell ⟨g,0,none⟩ a).setCell ⟨g,1,none⟩ b):=by
 obtain⟨h0,h1,h2,h3,h4,h5,h6,h7⟩:=h;have hk:∀(x:Addr) v,x.block<wr.heap.size->W.cell? x=some v->((W.setCell ⟨g,0,none⟩ a).setCell ⟨g,1,none⟩ b).cell? x=some v:=fun x v hx hv=>by
  rw[World.cell?_setCell_far _ _ _ _ (by show g≠x.block; omega),World.cell?_setCell_far _ _ _ _ (by show g≠x.block; omega)]; exact hv
 exact⟨(h0.setCell hg _).setCell hg _,hk _ _ hF h1,hk _ _ hG h2,hk _ _ (by show M<_; omega) h3,hk _ _ (by show M<_; omega) h4,hk _ _ (by show M<_; omega) h5,hk _ _ hM h6,hk _ _ hM h7⟩
theorem zcw (S:Nat->Prop) (m:Mo) (l:List Im) (own:Fc) (k:Nat) (vm vl vo:Value) (w:World) (hS:∀b,S b->b<w.heap.size) (hm:qT S w m vm) (hl:ze S (yd S w) 4 l vl) (ho:qC S w own vo) (hz:∀i∈l,zH i.face) (hzo:zH own) (hty:∀f∈m.types,zl f.is 1=0) (hn:m.types.length<=reachBytes) (hfu:∀f∈m.funcs,JJ f) (hfb:∀f∈m.funcs,zx f.body 1=0) (hk:k<m.funcs.length) :
  Calls Tryz.prog 116 #[vm,vl,vo,.int .i64 (k:Nat)] w fun e w'=>e=.returned (.int .i64 (yL m l own k))/\Below w.heap.size w w':=by
 have HOne:Hid (∀W,Below w.heap.size w W->Calls Tryz.prog 56 #[vm,vl,.int .i64 (k:Nat)] W (Yg W (vh m l k) (qg m l k))):=fun W hW=>
  zcV S m l k vm vl W (fun b hb=>Nat.lt_of_lt_of_le (hS b hb) hW.size) (hm.keep (Keeps.below hW hS)) (qd (Keeps.below hW hS) hl) hz hty hn hfu hk
 have hm':=hm;obtain⟨vu,vty,vf,rfl,hu,hts,hf⟩:=hm';have hlen:=hf.len;unfold maxLen at hlen;obtain⟨u1,u2,u3,rfl⟩:=hu.slice;obtain⟨t1,t2,t3,rfl⟩:=hts.slice;obtain⟨f1,f3,rfl⟩:=hf.is;obtain⟨la,ln,lc,rfl⟩:=hl.slice;obtain⟨o1,o2,o3,o4,o5,o6,rfl⟩:∃a b c d e f,vo=.agg #[.slice a b c,.slice d e f]:=by
  obtain⟨vt,vf,rfl,h1,h2⟩:=ho;obtain⟨a,b,c,rfl⟩:=h1.slice;obtain⟨d,e,f,rfl⟩:=h2.slice;exact⟨_,_,_,_,_,_,rfl⟩
 obtain⟨_,b,off,rfl,hb,hat⟩:=hf.at hk;obtain⟨vp1,vp2,vp3,kd,fo,na,p1,p2,p3,ke,ne,fe,se,ve1,ve2,ve3,a0,a1,a2,a3,a4,a5,a6,a7,a8,a9,a10,a11,hsz0,hsz1,hps,hcs,hce⟩:=Q3 hat;have hbw:=hS b hb;obtain⟨W2,hwe,hs2,hbel,m0,m1,m2,n0,n1⟩:∃W2,(w.alloc (.cells #[.slice u1 u2 u3,.slice t1 t2 t3,.slice (some ⟨b,off,none⟩) m.funcs.length f3] 41)).alloc (.cells #[.slice o1 o2 o3,.slice o4 o5 o6] 26)=W2/\W2.heap.size=w.heap.size+2/\Below w.heap.size w W2/\
   W2.cell? ⟨w.heap.size,0,none⟩=some (.slice u1 u2 u3)/\W2.cell? ⟨w.heap.size,1,none⟩=some (.slice t1 t2 t3)/\W2.cell? ⟨w.heap.size,2,none⟩=some (.slice (some ⟨b,off,none⟩) m.funcs.length f3)/\W2.cell? ⟨w.heap.size+1,0,none⟩=some (.slice o1 o2 o3)/\W2.cell? ⟨w.heap.size+1,1,none⟩=some (.slice o4 o5 o6):=
  ⟨_,rfl,by simp,((Below.refl _ _).alloc (Nat.le_refl _) _).alloc (by simp) _,by simp[go_sem],by simp[go_sem],by simp[go_sem],by simp[go_sem],by simp[go_sem]⟩
 have HWe:=zd hwe;have HBel:=zd hbel;have HOne2:=zd (HOne.out W2 hbel);have HBox:Hid (∀W,Below W2.heap.size W2 W->(W.cell? ⟨w.heap.size,0,none⟩=some (.slice u1 u2 u3)/\W.cell? ⟨w.heap.size,1,none⟩=some (.slice t1 t2 t3)/\W.cell? ⟨w.heap.size,2,none⟩=some (.slice (some ⟨b,off,none⟩) m.funcs.length f3)/\W.cell? ⟨w.heap.size+1,0,none⟩=some (.slice o1 o2 o3)/\W.cell? ⟨w.heap.size+1,1,none⟩=some (.slice o4 o5 o6))/\Below w.heap.size w W):=fun W h=>by
  have l0:w.heap.size<W2.heap.size:=by omega
  have l1:w.heap.size+1<W2.heap.size:=by omega
  exact⟨⟨(h.cell (p:=⟨w.heap.size,0,none⟩) l0).trans m0,(h.cell (p:=⟨w.heap.size,1,none⟩) l0).trans m1,(h.cell (p:=⟨w.heap.size,2,none⟩) l0).trans m2,(h.cell (p:=⟨w.heap.size+1,0,none⟩) l1).trans n0,(h.cell (p:=⟨w.heap.size+1,1,none⟩) l1).trans n1⟩,hbel.trans (h.mono hbel.size)⟩
 have HA:Hid (∀W,Below w.heap.size w W->W.cell? ⟨b,off+k * 12,none⟩=some (.string m.funcs[k].name)/\W.cell? ⟨b,off+k * 12+1,none⟩=some (.string m.funcs[k].var)/\W.cell? ⟨b,off+k * 12+2,none⟩=some (.slice vp1 vp2 vp3)/\W.cell? ⟨b,off+k * 12+3,none⟩=some (.int .i64 kd)/\W.cell? ⟨b,off+k * 12+4,none⟩=some (.string fo)/\W.cell? ⟨b,off+k * 12+5,none⟩=some (.string na)/\W.cell? ⟨b,off+k * 12+6,none⟩=some (.slice p1 p2 p3)/\W.cell? ⟨b,off+k * 12+7,none⟩=some (.int .i64 ke)/\W.cell? ⟨b,off+k * 12+8,none⟩=some (.int .i64 ne)/\W.cell? ⟨b,off+k * 12+9,none⟩=some (.string fe)/\W.cell? ⟨b,off+k * 12+10,none⟩=some (.string se)/\W.cell? ⟨b,off+k * 12+11,none⟩=some (.slice ve1 ve2 ve3)):=fun W h=>
  ⟨(h.cell (p:=⟨b,_,none⟩) hbw).trans a0,(h.cell (p:=⟨b,_,none⟩) hbw).trans a1,(h.cell (p:=⟨b,_,none⟩) hbw).trans a2,(h.cell (p:=⟨b,_,none⟩) hbw).trans a3,(h.cell (p:=⟨b,_,none⟩) hbw).trans a4,(h.cell (p:=⟨b,_,none⟩) hbw).trans a5,(h.cell (p:=⟨b,_,none⟩) hbw).trans a6,(h.cell (p:=⟨b,_,none⟩) hbw).trans a7,(h.cell (p:=⟨b,_,none⟩) hbw).trans a8,(h.cell (p:=⟨b,_,none⟩) hbw).trans a9,(h.cell (p:=⟨b,_,none⟩) hbw).trans a10,(h.cell (p:=⟨b,_,none⟩) hbw).trans a11⟩
 have HCode:Hid (yL m l own k=if qg m l k=0 then (if (jl m l own k).2=0 then (if sEq (jl m l own k).1 (vh m l k).result=true then 0 else 8) else (jl m l own k).2) else qg m l k):=rfl;have HLen:=zd (zhP (l:=l) hk);have HSz:=zd (zd6 (fc:=vy m l own) hz hk);have HBodyF:=zd (hfb _ (List.getElem_mem hk));have HIsAt:=zd (zac (l:=l) (own:=own) hk);have HPsAt:=zd (zab (l:=l) hk);have HMem:Hid (∀W,Below w.heap.size w W->qT (fun b=>b<W.heap.size) W m (.agg #[.slice u1 u2 u3,.slice t1 t2 t3,.slice (some ⟨b,off,none⟩) m.funcs.length f3])/\ze (fun b=>b<W.heap.size) (yd (fun b=>b<W.heap.size) W) 4 l (.slice la ln lc)/\qC (fun b=>b<W.heap.size) W own (.agg #[.slice o1 o2 o3,.slice o4 o5 o6])/\ze (fun b=>b<W.heap.size) (qO (fun b=>b<W.heap.size) W) 5 m.funcs[k].params (.slice vp1 vp2 vp3)/\yC (fun b=>b<W.heap.size) W m.funcs[k].body (.agg #[.int .i64 ke,.int .i64 ne,.string fe,.string se,.slice ve1 ve2 ve3])):=fun W hW=>by
  have hk:Keeps S (fun b=>b<W.heap.size) w W:=⟨fun b hb=>hW.block b (hS b hb),fun b hb=>Nat.lt_of_lt_of_le (hS b hb) hW.size⟩
  exact⟨hm.keep hk,qd hk hl,ho.keep hk,zP hk hps,⟨_,_,_,_,_,rfl,hce.keep hk⟩⟩
 have hk0:(0:Int)<=(k:Int):=by omega
 have hk1:(k:Int)<(m.funcs.length:Int):=by omega
 clear HOne hwe hbel hs2 a0 a1 a2 a3 a4 a5 a6 a7 a8 a9 a10 a11 hu hts hf hat hps hcs hce hsz0 hsz1 hm hl ho hty hn hfu hfb;generalize yL m l own k=bc at *;generalize qg m l k=oc at *;unfold Yg at HOne2;generalize hog:vh m l k=og at *;generalize hsn:og.name=sn at *;generalize hsr:og.result=sr at *;have HSn:=zd hsn;have HSr:=zd hsr;clear hsn hsr hog;go_enter Tryz.func116,Tryz.ntmps116;go_wp2_with (first|(rw[HWe.out]; clear HWe)|fail);refine HOne2.out.mono ?_;rintro e w3 ⟨xa,xn,xc,rfl,hsg,hb3⟩;obtain⟨W4,HW4,hb4,hs4,e0,e1,e2⟩:∃W4,Hid (w3.alloc (.cells #[.string sn,.slice xa xn xc,.string sr] 76)=W4)/\Below w3.heap.size w3 W4/\W4.heap.size=w3.heap.size+1/\W4.cell? ⟨w3.heap.size,0,none⟩=some (.string sn)/\W4.cell? ⟨w3.heap.size,1,none⟩=some (.slice xa xn xc)/\W4.cell? ⟨w3.heap.size,2,none⟩=some (.string sr):=
  ⟨_,rfl,(Below.refl _ _).alloc (Nat.le_refl _) _,by simp,by simp[go_sem],by simp[go_sem],by simp[go_sem]⟩
 clear m0 m1 m2 n0 n1;obtain⟨⟨m0,m1,m2,n0,n1⟩,hbw4⟩:=HBox.out W4 (hb3.trans (hb4.mono hb3.size));obtain⟨hgn,_,hgp⟩:=JT (g:=og) (by rw[HSn.out,HSr.out]; exact hsg);have HGp:Hid (∀W,Below W4.heap.size W4 W->ze (fun b=>b<W.heap.size) (zG W) 1 og.params (.slice xa xn xc)):=fun W hW=>zU ⟨fun b hb=>(hW.block b (Nat.lt_of_lt_of_le hb.2 hb4.size)).trans (hb4.block b hb.2),fun b hb=>Nat.lt_of_lt_of_le (Nat.lt_of_lt_of_le hb.2 hb4.size) hW.size⟩ hgp
 have HGn:=zd hgn;have HB4:=zd hbw4;have h34:w3.heap.size<W4.heap.size:=by omega
 have HBox4:Hid (∀W,Below W4.heap.size W4 W->(W.cell? ⟨w.heap.size,0,none⟩=some (.slice u1 u2 u3)/\W.cell? ⟨w.heap.size,1,none⟩=some (.slice t1 t2 t3)/\W.cell? ⟨w.heap.size,2,none⟩=some (.slice (some ⟨b,off,none⟩) m.funcs.length f3)/\W.cell? ⟨w.heap.size+1,0,none⟩=some (.slice o1 o2 o3)/\W.cell? ⟨w.heap.size+1,1,none⟩=some (.slice o4 o5 o6))/\Below w.heap.size w W/\W.cell? ⟨w3.heap.size,1,none⟩=some (.slice xa xn xc)/\W.cell? ⟨w3.heap.size,2,none⟩=some (.string sr)):=fun W hW=>by
  obtain⟨h1,h2⟩:=HBox.out W ((hb3.trans (hb4.mono hb3.size)).trans (hW.mono (hb3.trans (hb4.mono hb3.size)).size));exact⟨h1,h2,(hW.cell (p:=⟨w3.heap.size,1,none⟩) h34).trans e1,(hW.cell (p:=⟨w3.heap.size,2,none⟩) h34).trans e2⟩
 clear hsg hb3 hb4 hbw4 hgp HBox HOne2 hs4 hgn
 by_cases hc:oc=0
 ·subst hc
  have HLk:=zd (HLen.out rfl);have HCode2:Hid (bc=if (jl m l own k).2=0 then (if sEq (jl m l own k).1 sr=true then 0 else 8) else (jl m l own k).2):=by show _=_; rw[HCode.out,if_pos rfl]
  clear HLen HCode;obtain⟨d0,d1,d2,d3,d4,d5,d6,d7,d8,d9,d10,d11⟩:=HA.out _ HB4.out;generalize m.funcs[k].name=fnm at *;generalize m.funcs[k].var=fvr at *;obtain⟨W5,HW5,hb5,hs5,q2,q7,q8,q9,q10,q11⟩:∃W5,Hid (W4.alloc (.cells #[.string fnm,.string fvr,.slice vp1 vp2 vp3,.int .i64 kd,.string fo,.string na,.slice p1 p2 p3,.int .i64 ke,.int .i64 ne,.string fe,.string se,.slice ve1 ve2 ve3] 72)=W5)/\Below W4.heap.size W4 W5/\W5.heap.size=W4.heap.size+1/\W5.cell? ⟨W4.heap.size,2,none⟩=some (.slice vp1 vp2 vp3)/\W5.cell? ⟨W4.heap.size,7,none⟩=some (.int .i64 ke)/\W5.cell? ⟨W4.heap.size,8,none⟩=some (.int .i64 ne)/\W5.cell? ⟨W4.heap.size,9,none⟩=some (.string fe)/\W5.cell? ⟨W4.heap.size,10,none⟩=some (.string se)/\W5.cell? ⟨W4.heap.size,11,none⟩=some (.slice ve1 ve2 ve3):=
   ⟨_,rfl,(Below.refl _ _).alloc (Nat.le_refl _) _,by simp,by simp[go_sem],by simp[go_sem],by simp[go_sem],by simp[go_sem],by simp[go_sem],by simp[go_sem]⟩
  have h45:W4.heap.size<W5.heap.size:=by omega
  have HP:=zd (fun W=>zd7 (.slice vp1 vp2 vp3) (.slice xa xn xc) W ⟨_,_,_,rfl⟩ ⟨_,_,_,rfl⟩);have HQ:=zd (fun W=>zaG u1 t1 (some ⟨b,off,none⟩) la o1 o4 u2 u3 t2 t3 m.funcs.length f3 ln lc o2 o3 o5 o6 W);go_wp2_with (first|(rw[HW4.out]; clear HW4; clear m0 m1 m2 n0 n1; obtain⟨⟨m0,m1,m2,n0,n1⟩,_,e1,e2⟩:=HBox4.out _ (Below.refl _ _))|(rw[HW5.out]; clear HW5 m0 m1 m2 n0 n1 e0 e1 e2 d0 d1 d2 d3 d4 d5 d6 d7 d8 d9 d10 d11; obtain⟨⟨m0,m1,m2,n0,n1⟩,_,e1,e2⟩:=HBox4.out _ hb5)|fail);have HPa:Hid (∀(W:World) (x y:Value),Calls Tryz.prog 193 #[.slice vp1 vp2 vp3,.slice xa xn xc] (W.alloc (.cells #[x,y] 247)).drew fun e w'=>e=.returned (.func (.func 267) #[] #[.pointer (some ⟨W.heap.size+1,0,none⟩),.pointer (some ⟨W.heap.size+2,0,none⟩)])/\Below (W.alloc (.cells #[x,y] 247)).drew.heap.size (W.alloc (.cells #[x,y] 247)).drew w'/\(w'.heap.size=W.heap.size+3/\w'.cell? ⟨W.heap.size+1,0,none⟩=some (.slice vp1 vp2 vp3)/\w'.cell? ⟨W.heap.size+2,0,none⟩=some (.slice xa xn xc))/\w'.cell? ⟨W.heap.size,0,none⟩=some x/\w'.cell? ⟨W.heap.size,1,none⟩=some y/\w'.frozen? ⟨W.heap.size,0,none⟩=false/\w'.frozen? ⟨W.heap.size,1,none⟩=false):=fun W x y=>by
   have hsz:(W.alloc (.cells #[x,y] 247)).drew.heap.size=W.heap.size+1:=by show (W.alloc _).heap.size=_; simp
   refine (HP.out _).mono ?_;rintro e w' ⟨rfl,hb,hs,h0,h1⟩;rw[hsz] at hs h0 h1 ⊢;exact⟨rfl,by rw[<- hsz]; exact hb,⟨hs,h0,h1⟩,KV (W:=W) (t:=247) ⟨hb.os,hb.tape,hb.output,hb.size,hb.block⟩⟩
  have HQa:Hid (∀(W:World) (x y:Value),Calls Tryz.prog 194 #[.agg #[.slice u1 u2 u3,.slice t1 t2 t3,.slice (some ⟨b,off,none⟩) m.funcs.length f3],.slice la ln lc,.agg #[.slice o1 o2 o3,.slice o4 o5 o6]] (W.alloc (.cells #[x,y] 247)) fun e w'=>e=.returned (.func (.func 269) #[] #[.pointer (some ⟨W.heap.size+1+2,0,none⟩),.pointer (some ⟨W.heap.size+1,0,none⟩),.pointer (some ⟨W.heap.size+1+1,0,none⟩)])/\Below (W.alloc (.cells #[x,y] 247)).heap.size (W.alloc (.cells #[x,y] 247)) w'/\(w'.heap.size=W.heap.size+1+3/\
    w'.cell? ⟨W.heap.size+1+2,0,none⟩=some (.slice o1 o2 o3)/\w'.cell? ⟨W.heap.size+1+2,1,none⟩=some (.slice o4 o5 o6)/\w'.cell? ⟨W.heap.size+1,0,none⟩=some (.slice u1 u2 u3)/\w'.cell? ⟨W.heap.size+1,1,none⟩=some (.slice t1 t2 t3)/\w'.cell? ⟨W.heap.size+1,2,none⟩=some (.slice (some ⟨b,off,none⟩) m.funcs.length f3)/\w'.cell? ⟨W.heap.size+1+1,0,none⟩=some (.slice la ln lc))/\w'.cell? ⟨W.heap.size,0,none⟩=some x/\w'.cell? ⟨W.heap.size,1,none⟩=some y/\w'.frozen? ⟨W.heap.size,0,none⟩=false/\w'.frozen? ⟨W.heap.size,1,none⟩=false):=fun W x y=>by
   have hsz:(W.alloc (.cells #[x,y] 247)).heap.size=W.heap.size+1:=by simp
   refine (HQ.out _).mono ?_;rintro e w' ⟨rfl,hb,hs,h0,h1,h2,h3,h4,h5⟩;rw[hsz] at hs h0 h1 h2 h3 h4 h5 ⊢;exact⟨rfl,by rw[<- hsz]; exact hb,⟨hs,h0,h1,h2,h3,h4,h5⟩,KV (W:=W) (t:=247) ⟨hb.os,hb.tape,hb.output,hb.size,hb.block⟩⟩
  have HK0:Hid (vW W4.heap.size w3.heap.size w.heap.size (.slice vp1 vp2 vp3) (.slice xa xn xc) (.slice u1 u2 u3) (.slice t1 t2 t3) (.slice (some ⟨b,off,none⟩) m.funcs.length f3) (.slice o1 o2 o3) (.slice o4 o5 o6) W5 W5.drew):=⟨(Below.refl _ _).drew,q2,e1,m0,m1,m2,n0,n1⟩
  have HB5:=zd hb5;have HB45:=zd (HB4.out.trans (hb5.mono HB4.out.size));clear hs5 hb5;have h3w:w3.heap.size<W5.heap.size:=by omega
  have hwm:w.heap.size+1<W5.heap.size:=World.block_lt_of_cell? _ _ n0
  go_region_held3 (fun W=>Below W5.heap.size W5 W/\W.cell? ⟨W4.heap.size,2,none⟩=some (.slice vp1 vp2 vp3)/\W.cell? ⟨w3.heap.size,1,none⟩=some (.slice xa xn xc)/\W.cell? ⟨w.heap.size,0,none⟩=some (.slice u1 u2 u3)/\W.cell? ⟨w.heap.size,1,none⟩=some (.slice t1 t2 t3)/\W.cell? ⟨w.heap.size,2,none⟩=some (.slice (some ⟨b,off,none⟩) m.funcs.length f3)/\W.cell? ⟨w.heap.size+1,0,none⟩=some (.slice o1 o2 o3)/\W.cell? ⟨w.heap.size+1,1,none⟩=some (.slice o4 o5 o6)) (first|exact HK0.out|exact vW.later (by assumption) (by assumption)|exact vW.box (by assumption)|exact vW.swap (by assumption) (by assumption) (by assumption) (by assumption) (by assumption)|exact vW.sets (by assumption) (by first|exact Nat.le_refl _|assumption) (by assumption) (by assumption) (by assumption))
   (first
    |(go_at_call 193; refine (HPa.out _ _ _).mono ?_; rintro e w6 ⟨rfl,hb6,hx6,g0,g1,g2,g3⟩; have hl6:W5.heap.size<=w6.heap.size:=Nat.le_trans (vW.below (by assumption)).size hb6.size; have HX:=zd hx6; clear hx6)
    |(go_at_call 193; refine (HP.out _).mono ?_; rintro e w6 ⟨rfl,hb6,hx6⟩; have hl6:W5.heap.size<=w6.heap.size:=Nat.le_trans (vW.below (by assumption)).size hb6.size; have HX:=zd hx6; clear hx6)
    |(go_at_call 194; refine (HQa.out _ _ _).mono ?_; rintro e w7 ⟨rfl,hb7,hy7,g4,g5,g6,g7⟩; have hl7:W5.heap.size<=w7.heap.size:=Nat.le_trans (vW.below (by assumption)).size hb7.size; have HY:=zd hy7; clear hy7)
    |(go_at_call 194; refine (HQ.out _).mono ?_; rintro e w7 ⟨rfl,hb7,hy7⟩; have hl7:W5.heap.size<=w7.heap.size:=Nat.le_trans (vW.below (by assumption)).size hb7.size; have HY:=zd hy7; clear hy7; (try have g4:=(hb7.cell (World.block_lt_of_cell? _ _ g0)).trans g0); (try have g5:=(hb7.cell (World.block_lt_of_cell? _ _ g1)).trans g1); (try have g6:=(hb7.frozen (World.block_lt_of_cell? _ _ g0)).trans g2); (try have g7:=(hb7.frozen (World.block_lt_of_cell? _ _ g1)).trans g3)))
  ·rename_i hHeld
   have hbW:=hHeld.1;clear hHeld;obtain⟨W8,HW8,hN⟩:∃W8,Hid (w7.alloc (.cells #[.func (.func 267) #[] #[.pointer (some ⟨W5.heap.size,0,none⟩),.pointer (some ⟨W5.heap.size+1,0,none⟩)],.func (.func 269) #[] #[.pointer (some ⟨w6.heap.size+2,0,none⟩),.pointer (some ⟨w6.heap.size,0,none⟩),.pointer (some ⟨w6.heap.size+1,0,none⟩)]] 247)=W8)/\NamesAt W5 W8 (w7.heap.size) (W5.heap.size) (W5.heap.size+1) (w6.heap.size+2) (w6.heap.size) (w6.heap.size+1) (.slice vp1 vp2 vp3) (.slice xa xn xc) (.slice u1 u2 u3) (.slice t1 t2 t3) (.slice (some ⟨b,off,none⟩) m.funcs.length f3) (.slice la ln lc) (.slice o1 o2 o3) (.slice o4 o5 o6):=by
    obtain⟨hx0,x0,x1⟩:=HX.out;obtain⟨hy0,y0,y1,y2,y3,y4,y5⟩:=HY.out;have hk7:∀(a:Addr) y,w7.cell? a=some y->(w7.alloc (.cells #[.func (.func 267) #[] #[.pointer (some ⟨W5.heap.size,0,none⟩),.pointer (some ⟨W5.heap.size+1,0,none⟩)],.func (.func 269) #[] #[.pointer (some ⟨w6.heap.size+2,0,none⟩),.pointer (some ⟨w6.heap.size,0,none⟩),.pointer (some ⟨w6.heap.size+1,0,none⟩)]] 247)).cell? a=some y:=fun a y h=>(((Below.refl w7.heap.size w7).alloc (Nat.le_refl _) _).cell (World.block_lt_of_cell? _ _ h)).trans h
    have hk6:∀(a:Addr) y,w6.cell? a=some y->(w7.alloc (.cells #[.func (.func 267) #[] #[.pointer (some ⟨W5.heap.size,0,none⟩),.pointer (some ⟨W5.heap.size+1,0,none⟩)],.func (.func 269) #[] #[.pointer (some ⟨w6.heap.size+2,0,none⟩),.pointer (some ⟨w6.heap.size,0,none⟩),.pointer (some ⟨w6.heap.size+1,0,none⟩)]] 247)).cell? a=some y:=fun a y h=>hk7 _ _ ((hb7.cell (World.block_lt_of_cell? _ _ h)).trans h)
    exact⟨_,rfl,hbW,by simp[go_sem],by simp[go_sem],hk6 _ _ x0,hk6 _ _ x1,hk7 _ _ y0,hk7 _ _ y1,hk7 _ _ y2,hk7 _ _ y3,hk7 _ _ y4,hk7 _ _ y5⟩
   have HEx:Hid (Calls Tryz.prog 195 #[.agg #[.func (.func 267) #[] #[.pointer (some ⟨W5.heap.size,0,none⟩),.pointer (some ⟨W5.heap.size+1,0,none⟩)],.func (.func 269) #[] #[.pointer (some ⟨w6.heap.size+2,0,none⟩),.pointer (some ⟨w6.heap.size,0,none⟩),.pointer (some ⟨w6.heap.size+1,0,none⟩)]],.agg #[.int .i64 ke,.int .i64 ne,.string fe,.string se,.slice ve1 ve2 ve3]] W8 (jk (Qp m l k) (vy m l own) m.funcs[k].body W8)):=by
    have h8:=HB45.out.trans (hN.bel.mono HB45.out.size);obtain⟨z1,z2,z3,z4,z5⟩:=HMem.out W8 h8;rw[HPsAt.out];exact Yl m l own m.funcs[k].params og.params m.funcs[k].body hN z1 z2 z3 z4 (HGp.out W8 (HB5.out.trans (hN.bel.mono HB5.out.size))) HLk.out z5 hz hzo HBodyF.out (by rw[<- HPsAt.out]; exact HSz.out)
   have HB8:=zd (HB45.out.trans (hN.bel.mono HB45.out.size));have n0:=hN.n0;have n1:=hN.n1;have r7:=(hN.bel.cell (p:=⟨W4.heap.size,7,none⟩) h45).trans q7;have r8:=(hN.bel.cell (p:=⟨W4.heap.size,8,none⟩) h45).trans q8;have r9:=(hN.bel.cell (p:=⟨W4.heap.size,9,none⟩) h45).trans q9;have r10:=(hN.bel.cell (p:=⟨W4.heap.size,10,none⟩) h45).trans q10;have r11:=(hN.bel.cell (p:=⟨W4.heap.size,11,none⟩) h45).trans q11;have r2:=(hN.bel.cell (p:=⟨w3.heap.size,2,none⟩) h3w).trans e2;have hl8:w3.heap.size<W8.heap.size:=Nat.lt_of_lt_of_le h3w hN.bel.size;rw[HW8.out];clear HW8 hN HX HY HPa HQa HP HQ HK0 q2 q7 q8 q9 q10 q11 e1 e2 m0 m1 m2 HGp HMem HA HSz HBox4 HLk HPsAt HBodyF h45 h3w hwm HB45 HB5;unfold jk at HEx;rw[<- HIsAt.out] at HEx;clear HIsAt;generalize jl m l own k=r at *;obtain⟨rs,rc⟩:=r;go_wp2_with fail;refine HEx.out.mono ?_;rintro e w9 ⟨rfl,hb9⟩;have x2:=(hb9.cell (p:=⟨w3.heap.size,2,none⟩) hl8).trans r2;have HB9:=zd (HB8.out.trans (hb9.mono HB8.out.size));clear hb9 HEx n0 n1 r7 r8 r9 r10 r11 r2
   by_cases hrc:rc=0
   ·subst hrc
    cases hq:(rs.toList==sr.toList) with
    |true=>
     have hq':(rs.toList != sr.toList)=false:=by simp[bne,hq]
     have HR:Hid (bc=0):=by
      show _=_;rw[HCode2.out];simp[sEq,hq]
     clear HCode2;go_wp2_with fail;go_ret;exact⟨by rw[HR.out]; rfl,HB9.out⟩
    |false=>
     have hq':(rs.toList != sr.toList)=true:=by simp[bne,hq]
     have HR:Hid (bc=8):=by
      show _=_;rw[HCode2.out];simp[sEq,hq]
     clear HCode2;go_wp2_with fail;go_ret;exact⟨by rw[HR.out]; rfl,HB9.out⟩
   ·have hrc':(rc != 0)=true:=by simp[hrc]
    have HR:Hid (bc=rc):=by show _=_; rw[HCode2.out]; exact if_neg hrc
    clear HCode2 hrc;go_wp2_with fail;go_ret;exact⟨by rw[HR.out]; rfl,HB9.out⟩
  ·rename_i hHeld
   have hbW:=hHeld.1;clear hHeld;obtain⟨W8,HW8,hN⟩:∃W8,Hid (((w7.setCell ⟨w6.heap.size,0,none⟩ (.func (.func 267) #[] #[.pointer (some ⟨W5.heap.size,0,none⟩),.pointer (some ⟨W5.heap.size+1,0,none⟩)])).setCell ⟨w6.heap.size,1,none⟩ (.func (.func 269) #[] #[.pointer (some ⟨w6.heap.size+1+2,0,none⟩),.pointer (some ⟨w6.heap.size+1,0,none⟩),.pointer (some ⟨w6.heap.size+1+1,0,none⟩)]))=W8)/\NamesAt W5 W8 (w6.heap.size) (W5.heap.size) (W5.heap.size+1) (w6.heap.size+1+2) (w6.heap.size+1) (w6.heap.size+1+1) (.slice vp1 vp2 vp3) (.slice xa xn xc) (.slice u1 u2 u3) (.slice t1 t2 t3) (.slice (some ⟨b,off,none⟩) m.funcs.length f3) (.slice la ln lc) (.slice o1 o2 o3) (.slice o4 o5 o6):=by
    obtain⟨hx0,x0,x1⟩:=HX.out;obtain⟨hy0,y0,y1,y2,y3,y4,y5⟩:=HY.out;have hk7:∀(a:Addr) y,a.block≠w6.heap.size->w7.cell? a=some y->((w7.setCell ⟨w6.heap.size,0,none⟩ (.func (.func 267) #[] #[.pointer (some ⟨W5.heap.size,0,none⟩),.pointer (some ⟨W5.heap.size+1,0,none⟩)])).setCell ⟨w6.heap.size,1,none⟩ (.func (.func 269) #[] #[.pointer (some ⟨w6.heap.size+1+2,0,none⟩),.pointer (some ⟨w6.heap.size+1,0,none⟩),.pointer (some ⟨w6.heap.size+1+1,0,none⟩)])).cell? a=some y:=fun a y hne h=>by
     rw[World.cell?_setCell_far _ _ _ _ (fun e=>hne e.symm),World.cell?_setCell_far _ _ _ _ (fun e=>hne e.symm)]; exact h
    have hd:W5.drew.heap.size=W5.heap.size:=rfl;have hk6:∀(a:Addr) y,a.block≠w6.heap.size->w6.cell? a=some y->((w7.setCell ⟨w6.heap.size,0,none⟩ (.func (.func 267) #[] #[.pointer (some ⟨W5.heap.size,0,none⟩),.pointer (some ⟨W5.heap.size+1,0,none⟩)])).setCell ⟨w6.heap.size,1,none⟩ (.func (.func 269) #[] #[.pointer (some ⟨w6.heap.size+1+2,0,none⟩),.pointer (some ⟨w6.heap.size+1,0,none⟩),.pointer (some ⟨w6.heap.size+1+1,0,none⟩)])).cell? a=some y:=fun a y hne h=>by
     have hl:=World.block_lt_of_cell? _ _ h;refine hk7 _ _ hne ((hb7.cell (by simp; omega)).trans ?_);exact (((Below.refl w6.heap.size w6).alloc (Nat.le_refl _) _).cell hl).trans h
    have hn01:(⟨w6.heap.size,0,none⟩:Addr)≠⟨w6.heap.size,1,none⟩:=fun e=>absurd (show (0:Nat)=1 from congrArg Addr.off e) (by decide)
    have hn10:(⟨w6.heap.size,1,none⟩:Addr)≠⟨w6.heap.size,0,none⟩:=fun e=>absurd (show (1:Nat)=0 from congrArg Addr.off e) (by decide)
    refine⟨_,rfl,hbW,?_,?_,hk6 _ _ (by dsimp only; omega) x0,hk6 _ _ (by dsimp only; omega) x1,hk7 _ _ (by dsimp only; omega) y0,hk7 _ _ (by dsimp only; omega) y1,hk7 _ _ (by dsimp only; omega) y2,hk7 _ _ (by dsimp only; omega) y3,hk7 _ _ (by dsimp only; omega) y4,hk7 _ _ (by dsimp only; omega) y5⟩
    ·rw[World.cell?_setCell_other _ _ _ _ hn10]
     exact World.cell?_setCell_same _ _ _ g4
    ·exact World.cell?_setCell_same _ _ _ ((World.cell?_setCell_other _ _ _ _ hn01).trans g5)
   have HEx:Hid (Calls Tryz.prog 195 #[.agg #[.func (.func 267) #[] #[.pointer (some ⟨W5.heap.size,0,none⟩),.pointer (some ⟨W5.heap.size+1,0,none⟩)],.func (.func 269) #[] #[.pointer (some ⟨w6.heap.size+1+2,0,none⟩),.pointer (some ⟨w6.heap.size+1,0,none⟩),.pointer (some ⟨w6.heap.size+1+1,0,none⟩)]],.agg #[.int .i64 ke,.int .i64 ne,.string fe,.string se,.slice ve1 ve2 ve3]] W8 (jk (Qp m l k) (vy m l own) m.funcs[k].body W8)):=by
    have h8:=HB45.out.trans (hN.bel.mono HB45.out.size);obtain⟨z1,z2,z3,z4,z5⟩:=HMem.out W8 h8;rw[HPsAt.out];exact Yl m l own m.funcs[k].params og.params m.funcs[k].body hN z1 z2 z3 z4 (HGp.out W8 (HB5.out.trans (hN.bel.mono HB5.out.size))) HLk.out z5 hz hzo HBodyF.out (by rw[<- HPsAt.out]; exact HSz.out)
   have HB8:=zd (HB45.out.trans (hN.bel.mono HB45.out.size));have n0:=hN.n0;have n1:=hN.n1;have r7:=(hN.bel.cell (p:=⟨W4.heap.size,7,none⟩) h45).trans q7;have r8:=(hN.bel.cell (p:=⟨W4.heap.size,8,none⟩) h45).trans q8;have r9:=(hN.bel.cell (p:=⟨W4.heap.size,9,none⟩) h45).trans q9;have r10:=(hN.bel.cell (p:=⟨W4.heap.size,10,none⟩) h45).trans q10;have r11:=(hN.bel.cell (p:=⟨W4.heap.size,11,none⟩) h45).trans q11;have r2:=(hN.bel.cell (p:=⟨w3.heap.size,2,none⟩) h3w).trans e2;have hl8:w3.heap.size<W8.heap.size:=Nat.lt_of_lt_of_le h3w hN.bel.size;rw[HW8.out];clear HW8 hN HX HY HPa HQa HP HQ HK0 q2 q7 q8 q9 q10 q11 e1 e2 m0 m1 m2 HGp HMem HA HSz HBox4 HLk HPsAt HBodyF h45 h3w hwm HB45 HB5;unfold jk at HEx;rw[<- HIsAt.out] at HEx;clear HIsAt;generalize jl m l own k=r at *;obtain⟨rs,rc⟩:=r;go_wp2_with fail;refine HEx.out.mono ?_;rintro e w9 ⟨rfl,hb9⟩;have x2:=(hb9.cell (p:=⟨w3.heap.size,2,none⟩) hl8).trans r2;have HB9:=zd (HB8.out.trans (hb9.mono HB8.out.size));clear hb9 HEx n0 n1 r7 r8 r9 r10 r11 r2
   by_cases hrc:rc=0
   ·subst hrc
    cases hq:(rs.toList==sr.toList) with
    |true=>
     have hq':(rs.toList != sr.toList)=false:=by simp[bne,hq]
     have HR:Hid (bc=0):=by
      show _=_;rw[HCode2.out];simp[sEq,hq]
     clear HCode2;go_wp2_with fail;go_ret;exact⟨by rw[HR.out]; rfl,HB9.out⟩
    |false=>
     have hq':(rs.toList != sr.toList)=true:=by simp[bne,hq]
     have HR:Hid (bc=8):=by
      show _=_;rw[HCode2.out];simp[sEq,hq]
     clear HCode2;go_wp2_with fail;go_ret;exact⟨by rw[HR.out]; rfl,HB9.out⟩
   ·have hrc':(rc != 0)=true:=by simp[hrc]
    have HR:Hid (bc=rc):=by show _=_; rw[HCode2.out]; exact if_neg hrc
    clear HCode2 hrc;go_wp2_with fail;go_ret;exact⟨by rw[HR.out]; rfl,HB9.out⟩
  ·rename_i hHeld
   have hbW:=hHeld.1;clear hHeld;obtain⟨W8,HW8,hN⟩:∃W8,Hid (((w7.setCell ⟨W5.heap.size,0,none⟩ (.func (.func 267) #[] #[.pointer (some ⟨W5.heap.size+1,0,none⟩),.pointer (some ⟨W5.heap.size+2,0,none⟩)])).setCell ⟨W5.heap.size,1,none⟩ (.func (.func 269) #[] #[.pointer (some ⟨w6.heap.size+2,0,none⟩),.pointer (some ⟨w6.heap.size,0,none⟩),.pointer (some ⟨w6.heap.size+1,0,none⟩)]))=W8)/\NamesAt W5 W8 (W5.heap.size) (W5.heap.size+1) (W5.heap.size+2) (w6.heap.size+2) (w6.heap.size) (w6.heap.size+1) (.slice vp1 vp2 vp3) (.slice xa xn xc) (.slice u1 u2 u3) (.slice t1 t2 t3) (.slice (some ⟨b,off,none⟩) m.funcs.length f3) (.slice la ln lc) (.slice o1 o2 o3) (.slice o4 o5 o6):=by
    obtain⟨hx0,x0,x1⟩:=HX.out;obtain⟨hy0,y0,y1,y2,y3,y4,y5⟩:=HY.out;have hk7:∀(a:Addr) y,a.block≠W5.heap.size->w7.cell? a=some y->((w7.setCell ⟨W5.heap.size,0,none⟩ (.func (.func 267) #[] #[.pointer (some ⟨W5.heap.size+1,0,none⟩),.pointer (some ⟨W5.heap.size+2,0,none⟩)])).setCell ⟨W5.heap.size,1,none⟩ (.func (.func 269) #[] #[.pointer (some ⟨w6.heap.size+2,0,none⟩),.pointer (some ⟨w6.heap.size,0,none⟩),.pointer (some ⟨w6.heap.size+1,0,none⟩)])).cell? a=some y:=fun a y hne h=>by
     rw[World.cell?_setCell_far _ _ _ _ (fun e=>hne e.symm),World.cell?_setCell_far _ _ _ _ (fun e=>hne e.symm)]; exact h
    have hk6:∀(a:Addr) y,a.block≠W5.heap.size->w6.cell? a=some y->((w7.setCell ⟨W5.heap.size,0,none⟩ (.func (.func 267) #[] #[.pointer (some ⟨W5.heap.size+1,0,none⟩),.pointer (some ⟨W5.heap.size+2,0,none⟩)])).setCell ⟨W5.heap.size,1,none⟩ (.func (.func 269) #[] #[.pointer (some ⟨w6.heap.size+2,0,none⟩),.pointer (some ⟨w6.heap.size,0,none⟩),.pointer (some ⟨w6.heap.size+1,0,none⟩)])).cell? a=some y:=fun a y hne h=>
     hk7 _ _ hne ((hb7.cell (World.block_lt_of_cell? _ _ h)).trans h)
    have hn01:(⟨W5.heap.size,0,none⟩:Addr)≠⟨W5.heap.size,1,none⟩:=fun e=>absurd (show (0:Nat)=1 from congrArg Addr.off e) (by decide)
    have hn10:(⟨W5.heap.size,1,none⟩:Addr)≠⟨W5.heap.size,0,none⟩:=fun e=>absurd (show (1:Nat)=0 from congrArg Addr.off e) (by decide)
    refine⟨_,rfl,hbW,?_,?_,hk6 _ _ (by dsimp only; omega) x0,hk6 _ _ (by dsimp only; omega) x1,hk7 _ _ (by dsimp only; omega) y0,hk7 _ _ (by dsimp only; omega) y1,hk7 _ _ (by dsimp only; omega) y2,hk7 _ _ (by dsimp only; omega) y3,hk7 _ _ (by dsimp only; omega) y4,hk7 _ _ (by dsimp only; omega) y5⟩
    ·rw[World.cell?_setCell_other _ _ _ _ hn10]
     exact World.cell?_setCell_same _ _ _ g4
    ·exact World.cell?_setCell_same _ _ _ ((World.cell?_setCell_other _ _ _ _ hn01).trans g5)
   have HEx:Hid (Calls Tryz.prog 195 #[.agg #[.func (.func 267) #[] #[.pointer (some ⟨W5.heap.size+1,0,none⟩),.pointer (some ⟨W5.heap.size+2,0,none⟩)],.func (.func 269) #[] #[.pointer (some ⟨w6.heap.size+2,0,none⟩),.pointer (some ⟨w6.heap.size,0,none⟩),.pointer (some ⟨w6.heap.size+1,0,none⟩)]],.agg #[.int .i64 ke,.int .i64 ne,.string fe,.string se,.slice ve1 ve2 ve3]] W8 (jk (Qp m l k) (vy m l own) m.funcs[k].body W8)):=by
    have h8:=HB45.out.trans (hN.bel.mono HB45.out.size);obtain⟨z1,z2,z3,z4,z5⟩:=HMem.out W8 h8;rw[HPsAt.out];exact Yl m l own m.funcs[k].params og.params m.funcs[k].body hN z1 z2 z3 z4 (HGp.out W8 (HB5.out.trans (hN.bel.mono HB5.out.size))) HLk.out z5 hz hzo HBodyF.out (by rw[<- HPsAt.out]; exact HSz.out)
   have HB8:=zd (HB45.out.trans (hN.bel.mono HB45.out.size));have n0:=hN.n0;have n1:=hN.n1;have r7:=(hN.bel.cell (p:=⟨W4.heap.size,7,none⟩) h45).trans q7;have r8:=(hN.bel.cell (p:=⟨W4.heap.size,8,none⟩) h45).trans q8;have r9:=(hN.bel.cell (p:=⟨W4.heap.size,9,none⟩) h45).trans q9;have r10:=(hN.bel.cell (p:=⟨W4.heap.size,10,none⟩) h45).trans q10;have r11:=(hN.bel.cell (p:=⟨W4.heap.size,11,none⟩) h45).trans q11;have r2:=(hN.bel.cell (p:=⟨w3.heap.size,2,none⟩) h3w).trans e2;have hl8:w3.heap.size<W8.heap.size:=Nat.lt_of_lt_of_le h3w hN.bel.size;rw[HW8.out];clear HW8 hN HX HY HPa HQa HP HQ HK0 q2 q7 q8 q9 q10 q11 e1 e2 m0 m1 m2 HGp HMem HA HSz HBox4 HLk HPsAt HBodyF h45 h3w hwm HB45 HB5;unfold jk at HEx;rw[<- HIsAt.out] at HEx;clear HIsAt;generalize jl m l own k=r at *;obtain⟨rs,rc⟩:=r;go_wp2_with fail;refine HEx.out.mono ?_;rintro e w9 ⟨rfl,hb9⟩;have x2:=(hb9.cell (p:=⟨w3.heap.size,2,none⟩) hl8).trans r2;have HB9:=zd (HB8.out.trans (hb9.mono HB8.out.size));clear hb9 HEx n0 n1 r7 r8 r9 r10 r11 r2
   by_cases hrc:rc=0
   ·subst hrc
    cases hq:(rs.toList==sr.toList) with
    |true=>
     have hq':(rs.toList != sr.toList)=false:=by simp[bne,hq]
     have HR:Hid (bc=0):=by
      show _=_;rw[HCode2.out];simp[sEq,hq]
     clear HCode2;go_wp2_with fail;go_ret;exact⟨by rw[HR.out]; rfl,HB9.out⟩
    |false=>
     have hq':(rs.toList != sr.toList)=true:=by simp[bne,hq]
     have HR:Hid (bc=8):=by
      show _=_;rw[HCode2.out];simp[sEq,hq]
     clear HCode2;go_wp2_with fail;go_ret;exact⟨by rw[HR.out]; rfl,HB9.out⟩
   ·have hrc':(rc != 0)=true:=by simp[hrc]
    have HR:Hid (bc=rc):=by show _=_; rw[HCode2.out]; exact if_neg hrc
    clear HCode2 hrc;go_wp2_with fail;go_ret;exact⟨by rw[HR.out]; rfl,HB9.out⟩
 ·have hc':(oc != 0)=true:=by simp[hc]
  have HR:Hid (bc=oc):=by show _=_; rw[HCode.out,if_neg hc]
  clear hc HCode;go_wp2_with (first|(rw[HW4.out]; clear HW4)|fail);go_ret;exact⟨by rw[HR.out]; rfl,HB4.out⟩
theorem zad {m:Mo} {l:List Im}:∀{k:Nat} {x:Kn},x∈qG m l k->∃q,q<k/\(qw m l q).2=0/\x=⟨xF m q,(qw m l q).1⟩
 |0,x,hx=>by cases hx
 |k+1,x,hx=>by
  rw[qG] at hx
  rcases List.mem_append.1 hx with h|h
  ·obtain⟨q,h1,h2⟩:=zad h
   exact⟨q,by omega,h2⟩
  ·unfold Q4 at h
   split at h
   ·rename_i h0
    exact⟨k,by omega,h0,List.mem_singleton.1 h⟩
   ·cases h
theorem zae {m:Mo} {l:List Im} {k:Nat} {x:Kn} (hx:x∈xT m l k):∃q,q<k/\(qw m l q).2=0/\x=⟨xF m q,(qw m l q).1⟩:=zad ((kA m l k).subset hx)
theorem zaf {m:Mo} {l:List Im}:∀{k:Nat} {x:Sg},x∈xU m l k->∃q,q<k/\qg m l q=0/\x=vh m l q
 |0,x,hx=>by cases hx
 |k+1,x,hx=>by
  rw[xU] at hx
  rcases List.mem_append.1 hx with h|h
  ·obtain⟨q,h1,h2⟩:=zaf h
   exact⟨q,by omega,h2⟩
  ·unfold Xw at h
   split at h
   ·rename_i h0
    exact⟨k,by omega,h0,List.mem_singleton.1 h⟩
   ·cases h
theorem zag {m:Mo} {l:List Im} {x:Sg} (hx:x∈yJ m l m.funcs.length):∃f∈m.funcs,yN (xL m l f.var) f=0/\x=⟨f.name,qF (xL m l f.var) f.params,(xL m l f.var f.result).1⟩:=by
 obtain⟨q,hq,h0,rfl⟩:=zaf ((kC m l _).subset hx);obtain⟨h1,h2⟩:=kz (l:=l) hq
 by_cases hh:jJ (m.funcs.take q) m.funcs[q].name=true
 ·rw[h1,if_pos hh] at h0; exact absurd h0 (by decide)
 ·rw[h1,if_neg hh] at h0
  refine⟨m.funcs[q],List.getElem_mem hq,h0,?_⟩;rw[h2,if_neg hh,kT,if_pos h0]
def ZH (m:Mo) (l:List Im):Fc:=⟨xT m l m.types.length,yJ m l m.funcs.length⟩
theorem zah {m:Mo} {l:List Im} (hz:∀i∈l,zH i.face) (vv:ByteArray) (t:Ty):(xL m l vv t).1.size<=reachBytes:=
 Vd (by unfold reachBytes; omega) (fun o n=>Vv (by unfold reachBytes; omega) (Nat.le_refl _) hz _ _ _ o n) 10 t
theorem zfC {m:Mo} {l:List Im} (hz:∀i∈l,zH i.face) (ht:∀f∈m.types,f.name.size<=8) (hf:∀f∈m.funcs,f.name.size<=8/\f.params.length<=8) (h24:m.types.length+m.funcs.length<=24):zH (ZH m l):=by
 have h1:=zbC m l m.types.length;have h2:=zbE m l m.funcs.length;refine⟨⟨by show (xT m l m.types.length).length * 32<=_; unfold reachBytes; omega,fun k hk=>?_⟩,by show (yJ m l m.funcs.length).length * 56<=_; unfold reachBytes; omega,fun g hg=>?_⟩
 ·obtain⟨q,hq,_,rfl⟩:=zae hk
  refine⟨?_,?_⟩
  ·show (xF m q).size<=_
   rw[kg hq];have:=ht _ (List.getElem_mem hq);unfold reachBytes; omega
  ·show (qw m l q).1.size<=_
   unfold qw
   split
   ·exact Nat.zero_le _
   ·exact Vv (by unfold reachBytes; omega) (Nat.le_refl _) hz _ _ _ _ _
 ·obtain⟨f,hfm,_,rfl⟩:=zag hg
  obtain⟨h3,h4⟩:=hf f hfm;refine⟨by show f.name.size<=_; unfold reachBytes; omega,zah hz _ _,?_,fun p hp=>?_⟩
  ·show (qF (xL m l f.var) f.params).length * 16<=_
   unfold qF;rw[List.length_map];unfold reachBytes; omega
  ·obtain⟨x,_,rfl⟩:=List.mem_map.1 hp
   exact zah hz _ _
def QH (m:Mo) (l:List Im) (own:Fc) (k:Nat):List Dg:=if yL m l own k=0 then [] else [⟨j9 m k,yL m l own k⟩]
def ql (m:Mo) (l:List Im) (own:Fc):Nat->List Dg
 |0=>[]
 |k+1=>ql m l own k++QH m l own k
theorem Xz (m:Mo) (l:List Im) (own:Fc):∀k,(ql m l own k).length<=k
 |0=>Nat.le_refl _
 |k+1=>by
  have:=Xz m l own k;rw[ql,List.length_append];unfold QH
  split <;> simp <;> omega
theorem ZY {m:Mo} {l:List Im} {own:Fc} (hn:∀f∈m.funcs,f.name.size<=8):∀(k:Nat),∀x∈ql m l own k,x.wh.size<=maxLen
 |0,x,hx=>by cases hx
 |k+1,x,hx=>by
  rw[ql] at hx
  rcases List.mem_append.1 hx with h|h
  ·exact ZY hn k x h
  ·unfold QH at h
   split at h
   ·cases h
   ·rw[List.mem_singleton.1 h]
    show (j9 m k).size<=_;unfold j9
    cases h:m.funcs[k]? with
    |none=>exact Nat.zero_le _
    |some f=>
     have:=hn f (List.mem_of_getElem? h);show f.name.size<=_;unfold maxLen; omega
def jR (m:Mo) (l:List Im) (own:Fc):List Dg:=z7 m.uses l m.uses.length++(qp m l m.types.length++ql m l own m.funcs.length)
theorem zaH (S:Nat->Prop) (m:Mo) (l:List Im) (own:Fc) (vm vl vo:Value) (w:World) (hS:∀b,S b->b<w.heap.size) (hm:qT S w m vm) (hl:ze S (yd S w) 4 l vl) (ho:qC S w own vo) (hz:∀i∈l,zH i.face) (hzo:zH own) (h0:zI m=0) (hzm:Zi m) :
  Calls Tryz.prog 63 #[vm,vl,vo] w fun e w'=>∃u,e=.returned u/\ze (fun b=>w.heap.size<=b/\b<w'.heap.size) (xp w') 2 (ql m l own m.funcs.length) u/\Below w.heap.size w w':=by
 have hcnt:=Qm h0 hzm;have HOne:Hid (∀W k,k<m.funcs.length->Below w.heap.size w W->Calls Tryz.prog 116 #[vm,vl,vo,.int .i64 (k:Nat)] W fun e w'=>e=.returned (.int .i64 (yL m l own k))/\Below W.heap.size W w'):=fun W k hk hW=>
  zcw S m l own k vm vl vo W (fun b hb=>Nat.lt_of_lt_of_le (hS b hb) hW.size) (hm.keep (Keeps.below hW hS)) (qd (Keeps.below hW hS) hl) (ho.keep (Keeps.below hW hS)) hz hzo (fun f hf=>(Zb h0 f hf).2) (by unfold reachBytes; omega) (kb h0) (zhQ h0) hk
 have hn8:∀f∈m.funcs,f.name.size<=8:=fun f hf=>xi (kb h0 f hf).1
 have HSm:=zd (ZY (l:=l) (own:=own) hn8);have HLe:=zd (Xz m l own);obtain⟨vu,vty,vf,rfl,hu,hts,hf⟩:=hm;have HF:=zd hf;obtain⟨u1,u2,u3,rfl⟩:=hu.slice;obtain⟨t1,t2,t3,rfl⟩:=hts.slice;obtain⟨f1,f3,rfl⟩:=hf.is;obtain⟨la,ln,lc,rfl⟩:=hl.slice;obtain⟨vt',vf',rfl,ho1,ho2⟩:=ho;obtain⟨o1,o2,o3,rfl⟩:=ho1.slice;obtain⟨o4,o5,o6,rfl⟩:=ho2.slice;obtain⟨w0,hwe,hs0,hA,q0,q1,q2,q3,q4⟩:∃w0,(w.alloc (.cells #[.slice u1 u2 u3,.slice t1 t2 t3,.slice f1 m.funcs.length f3] 41)).alloc (.cells #[.slice o1 o2 o3,.slice o4 o5 o6] 26)=w0/\w0.heap.size=w.heap.size+2/\Below w.heap.size w w0/\
   w0.cell? ⟨w.heap.size,0,none⟩=some (.slice u1 u2 u3)/\w0.cell? ⟨w.heap.size,1,none⟩=some (.slice t1 t2 t3)/\w0.cell? ⟨w.heap.size,2,none⟩=some (.slice f1 m.funcs.length f3)/\w0.cell? ⟨w.heap.size+1,0,none⟩=some (.slice o1 o2 o3)/\w0.cell? ⟨w.heap.size+1,1,none⟩=some (.slice o4 o5 o6):=
  ⟨_,rfl,by simp,((Below.refl _ _).alloc (Nat.le_refl _) _).alloc (by simp) _,by simp[go_sem],by simp[go_sem],by simp[go_sem],by simp[go_sem],by simp[go_sem]⟩
 have HBox:Hid (∀W,Below w0.heap.size w0 W->(W.cell? ⟨w.heap.size,0,none⟩=some (.slice u1 u2 u3)/\W.cell? ⟨w.heap.size,1,none⟩=some (.slice t1 t2 t3)/\W.cell? ⟨w.heap.size,2,none⟩=some (.slice f1 m.funcs.length f3)/\W.cell? ⟨w.heap.size+1,0,none⟩=some (.slice o1 o2 o3)/\W.cell? ⟨w.heap.size+1,1,none⟩=some (.slice o4 o5 o6))/\Below w.heap.size w W):=fun W h=>by
  have l0:w.heap.size<w0.heap.size:=by omega
  have l1:w.heap.size+1<w0.heap.size:=by omega
  exact⟨⟨(h.cell (p:=⟨w.heap.size,0,none⟩) l0).trans q0,(h.cell (p:=⟨w.heap.size,1,none⟩) l0).trans q1,(h.cell (p:=⟨w.heap.size,2,none⟩) l0).trans q2,(h.cell (p:=⟨w.heap.size+1,0,none⟩) l1).trans q3,(h.cell (p:=⟨w.heap.size+1,1,none⟩) l1).trans q4⟩,hA.trans (h.mono hA.size)⟩
 have HWe:=zd hwe;have HFu:Hid (∀k (hk:k<m.funcs.length),(m.funcs[k]).name.size<=8):=fun k hk=>hn8 _ (List.getElem_mem hk)
 have hl24:m.funcs.length<=24:=by omega
 have hw0:w.heap.size<=w0.heap.size:=hA.size;clear hu hts hf hl hwe hA ho1 ho2 hz hzo h0 hzm hcnt hn8 hs0;obtain⟨i0,hi,hz0,hz1,hz2⟩:=info_parts XJ;go_enter Tryz.func63,Tryz.ntmps63;go_wp2_with fail;rw[HWe.out];clear HWe
 go_loopw [7,14] (fun v i wr=>∃k:Nat,k<=m.funcs.length/\i=.int .i64 k/\wr.ownsRow w0.heap.size 51 2 v (ql m l own k).length (zN (ql m l own k))/\Below w0.heap.size w0 wr) (fun _ i _=>m.funcs.length - (intOf i).toNat)
 case atStart=>exact⟨0,Nat.zero_le _,rfl,World.ownsRow_nil _ _ _ _,Below.refl _ _⟩
 case round=>
  obtain⟨k,hk,rfl,hown,hbl⟩:=hrel;clear q0 q1 q2 q3 q4;have hszr:=hbl.size;obtain⟨⟨c0,c1,c2,c3,c4⟩,hbw⟩:=HBox.out wr hbl;have HOwn:=zd hown;have HBl:=zd hbl;have HBw:=zd hbw;have hLe:=HLe.out k;clear hown hbl hbw
  by_cases hlt:k<m.funcs.length
  ·have hlt':(k:Int)<(m.funcs.length:Int):=by omega
   have hk0:(0:Int)<=(k:Int):=by omega
   obtain⟨_,b,off,rfl,hb,hat⟩:=HF.out.at hlt;obtain⟨vp1,vp2,vp3,kd,fo,na,p1,p2,p3,ke,ne,fe,se,ve1,ve2,ve3,a0,a1,a2,a3,a4,a5,a6,a7,a8,a9,a10,a11,_⟩:=Q3 hat;have hbk:=hS b hb;have d0:=(HBw.out.cell (p:=⟨b,off+k * 12,none⟩) hbk).trans a0;have d1:=(HBw.out.cell (p:=⟨b,off+k * 12+1,none⟩) hbk).trans a1;have d2:=(HBw.out.cell (p:=⟨b,off+k * 12+2,none⟩) hbk).trans a2;have d3:=(HBw.out.cell (p:=⟨b,off+k * 12+3,none⟩) hbk).trans a3;have d4:=(HBw.out.cell (p:=⟨b,off+k * 12+4,none⟩) hbk).trans a4;have d5:=(HBw.out.cell (p:=⟨b,off+k * 12+5,none⟩) hbk).trans a5;have d6:=(HBw.out.cell (p:=⟨b,off+k * 12+6,none⟩) hbk).trans a6;have d7:=(HBw.out.cell (p:=⟨b,off+k * 12+7,none⟩) hbk).trans a7;have d8:=(HBw.out.cell (p:=⟨b,off+k * 12+8,none⟩) hbk).trans a8;have d9:=(HBw.out.cell (p:=⟨b,off+k * 12+9,none⟩) hbk).trans a9;have d10:=(HBw.out.cell (p:=⟨b,off+k * 12+10,none⟩) hbk).trans a10;have d11:=(HBw.out.cell (p:=⟨b,off+k * 12+11,none⟩) hbk).trans a11;have HC2:=zd (fun W=>HOne.out W k hlt);have HNz:=zd (HFu.out k hlt);have hnm:j9 m k=m.funcs[k].name:=Y6 hlt;have HOk:Hid (yL m l own k=0->ql m l own (k+1)=ql m l own k):=fun h=>by rw[ql,QH,if_pos h,List.append_nil]
   have HBad:Hid (yL m l own k≠0->ql m l own (k+1)=ql m l own k++[⟨m.funcs[k].name,yL m l own k⟩]):=fun h=>by rw[ql,QH,if_neg h,hnm]
   clear a0 a1 a2 a3 a4 a5 a6 a7 a8 a9 a10 a11 hat hnm HF HOne HFu HSm;generalize m.funcs[k].name=nm at *;generalize m.funcs[k].var=vr at *;obtain⟨W1,HW1,e0,hs1,hb1⟩:∃W1,Hid (wr.alloc (.cells #[.string nm,.string vr,.slice vp1 vp2 vp3,.int .i64 kd,.string fo,.string na,.slice p1 p2 p3,.int .i64 ke,.int .i64 ne,.string fe,.string se,.slice ve1 ve2 ve3] 72)=W1)/\W1.cell? ⟨wr.heap.size,0,none⟩=some (.string nm)/\W1.heap.size=wr.heap.size+1/\Below wr.heap.size wr W1:=
    ⟨_,rfl,by simp[go_sem],by simp,(Below.refl _ _).alloc (Nat.le_refl _) _⟩
   have HB01:=zd (HBl.out.trans (hb1.mono hszr));obtain⟨⟨x0,x1,x2,x3,x4⟩,hbw1⟩:=HBox.out W1 HB01.out;have HBw1:=zd hbw1;have HOwn1:=zd (qs HOwn.out hb1);generalize yL m l own k=bc at *;clear hb1 hbw1 HOwn c0 c1 c2 c3 c4;go_wp2_with (first|(rw[HW1.out]; clear HW1 d0 d1 d2 d3 d4 d5 d6 d7 d8 d9 d10 d11)|fail);refine (HC2.out _ HBw1.out).mono ?_;rintro e w2 ⟨rfl,hb2⟩;have e2:=(hb2.cell (p:=⟨wr.heap.size,0,none⟩) (by show wr.heap.size<_; omega)).trans e0;have hown2:=qs HOwn1.out hb2;have hb02:=HB01.out.trans (hb2.mono HB01.out.size);have HB02:=zd hb02;have hs2:=hb02.size;have HOwn2:=zd hown2;clear hb2 x0 x1 x2 x3 x4 e0 HC2 HOwn1 hb02
   by_cases hc:bc=0
   ·subst hc
    have HN:=zd (HOk.out rfl);clear HOk HBad e2 hown2;go_wp2_with fail;exact⟨⟨k+1,by omega,by go_num,by rw[HN.out]; exact HOwn2.out,HB02.out⟩,by simp[intOf]; omega⟩
   ·have hc':(bc != 0)=true:=by simp[hc]
    have HN:=zd (HBad.out hc);clear HOk HBad hc;go_wp2_with (at_builtin; refine wpList_append_lies _ rfl _ _ 27 rfl w0.heap.size 51 i0 (.agg #[.string ⟨#[]⟩,.int .i64 0]) 2 24 Tryz.underlying27 hi hz0 hz1 hz2 rfl (by decide) _ _ _ rfl (hown2.alloc _) ⟨w2.heap.size,0,none⟩ 1 1 [.string nm,.int .i64 bc] rfl rfl (cell_two_new _ _ _ _) (ze8 _ _) (by decide) (by unfold maxLen; omega) (by omega) (by simp; omega) (w2.heap.size+1) (by simp) ?_);intro g cap w4 hown4 hgrow hat hlt4;have hrow:=vK hown2;have HL4:Hid (Below w0.heap.size w0 w4):=(HB02.out.alloc hs2 (.cells #[.string nm,.int .i64 bc] 51)).grown hgrow (by simp; omega) (fun j hj=>hrow j hj);have HO4:Hid (w4.ownsRow w0.heap.size 51 2 (.slice (some ⟨g,0,none⟩) ((ql m l own k).length+1) cap) (ql m l own (k+1)).length (zN (ql m l own (k+1)))):=by
     show w4.ownsRow _ _ _ _ _ _;rw[HN.out,Zz,List.length_append];exact hown4
    clear hown4 hgrow hrow hown2 hat hlt4 e2;go_wp2_with fail;exact⟨⟨k+1,by omega,by go_num,HO4.out,HL4.out⟩,by simp[intOf]; omega⟩
  ·have hnl:¬(k:Int)<(m.funcs.length:Int):=by omega
   have hke:k=m.funcs.length:=by omega
   subst hke;have HR:=zd (kN HOwn.out (by unfold maxLen; omega) (HSm.out _));clear c0 c1 c2 c3 c4 HOwn;go_wp2_with fail;go_ret;exact⟨_,rfl,HR.out.imp (fun b hb=>⟨by omega,hb.2⟩) (fun _ _ _ _ _ h=>h),HBw.out⟩
end Go.Proofs.YtedpiamfpbdhoaaGreatDoor
