import Derived.Test.YtedpiamfpbdhoaaGreatDoorJFg18
set_option maxHeartbeats 40000000
set_option maxRecDepth 100000
namespace Go.Proofs.YtedpiamfpbdhoaaGreatDoor
open Go.RowKit
structure Dg where
 wh:ByteArray
 code:Int
def xp (w:World) (d:Dg) (b o:Nat):Prop:=zG w d.wh b o/\w.cell? ⟨b,o+1,none⟩=some (.int .i64 d.code)
theorem vw {S S':Nat->Prop} {w w':World} (hk:Keeps S S' w w') {l:List Dg} {v:Value} (h:ze S (xp w) 2 l v):ze S' (xp w') 2 l v:=h.imp hk.sub fun _ _ _ _ hb' h=>⟨zG.keep hk hb' h.1,by rw[hk.cell hb']; exact h.2⟩
def kw (u:List ByteArray) (k:Nat):ByteArray:=u.getD k ⟨#[]⟩
def qP (u:List ByteArray) (l:List Im) (k:Nat):Int:=if qu (u.take k) (kw u k)=true then 4 else if qY u l (kw u k)=true then 0 else 3
def ZT (u:List ByteArray) (l:List Im) (k:Nat):List Dg:=if qP u l k=0 then [] else [⟨kw u k,qP u l k⟩]
def z7 (u:List ByteArray) (l:List Im):Nat->List Dg
 |0=>[]
 |k+1=>z7 u l k++ZT u l k
theorem Zy {u:List ByteArray} {k:Nat} (h:k<u.length):kw u k=u[k]:=by
 unfold kw;rw[List.getD_eq_getElem?_getD,List.getElem?_eq_getElem h]; rfl
theorem Z4 (u:List ByteArray) (l:List Im):∀k,(z7 u l k).length<=k
 |0=>Nat.le_refl _
 |k+1=>by
  have:=Z4 u l k;rw[z7,List.length_append];unfold ZT
  by_cases h:qP u l k=0
  ·rw[if_pos h]; simp; omega
  ·rw[if_neg h]; simp; omega
theorem zaD {u:List ByteArray} {l:List Im} {k:Nat} (h:qP u l k=0):z7 u l (k+1)=z7 u l k:=by
 rw[z7,ZT,if_pos h,List.append_nil]
theorem zbo {u:List ByteArray} {l:List Im} {k:Nat} (h:qP u l k≠0):z7 u l (k+1)=z7 u l k++[⟨kw u k,qP u l k⟩]:=by
 rw[z7,ZT,if_neg h]
def zN (l:List Dg):List Value:=l.flatMap fun t=>[.string t.wh,.int .i64 t.code]
theorem Zz (l:List Dg) (t:Dg):zN (l++[t])=zN l++[.string t.wh,.int .i64 t.code]:=by
 simp[zN]
theorem Ya:∀(l:List Dg) (i:Nat) (h:i<l.length),(zN l)[i * 2]? = some (.string l[i].wh)/\(zN l)[i * 2+1]? = some (.int .i64 l[i].code)
 |[],i,h=>absurd h (by simp)
 |t::r,0,_=>by simp[zN]
 |t::r,i+1,h=>by
  have ih:=Ya r i (by simpa using h);have e:zN (t::r)=.string t.wh::.int .i64 t.code::zN r:=by simp[zN]
  rw[e,show (i+1) * 2=i * 2+1+1 by omega,show i * 2+1+1+1=(i * 2+1)+1+1 by omega];simp only[List.getElem?_cons_succ,List.getElem_cons_succ];exact ih
theorem qs {w w':World} {B:Nat} {e:TypeId} {size:Nat} {v:Value} {n:Nat} {xs:List Value} (h:w.ownsRow B e size v n xs) (hb:Below w.heap.size w w'):w'.ownsRow B e size v n xs:=by
 obtain⟨hx,h|⟨g,cap,cur,hv,hg,hh,h1,h2,h3,h4⟩⟩:=h
 ·exact⟨hx,Or.inl h⟩
 ·refine⟨hx,Or.inr ⟨g,cap,cur,hv,hg,?_,h1,h2,h3,h4⟩⟩
  rw[hb.block g ?_]
  ·exact hh
  ·rcases Nat.lt_or_ge g w.heap.size with h|h
   ·exact h
   ·rw[Array.getElem?_eq_none h] at hh
    cases hh
theorem vK {w:World} {B:Nat} {e:TypeId} {size:Nat} {v:Value} {n:Nat} {xs:List Value} (h:w.ownsRow B e size v n xs):∀k,v.ownBlock=some k->B<=k:=by
 intro k hk;obtain⟨_,⟨hv,_⟩|⟨g,cap,cur,hv,hg,_⟩⟩:=h
 ·rw[hv] at hk
  cases hk
 ·rw[hv] at hk
  have:g=k:=by simpa [Value.ownBlock] using hk
  omega
theorem kN {w:World} {B:Nat} {v:Value} {l:List Dg} (h:w.ownsRow B 51 2 v l.length (zN l)) (hl:l.length<=maxLen) (hs:∀t∈l,t.wh.size<=maxLen):ze (fun b=>B<=b/\b<w.heap.size) (xp w) 2 l v:=by
 obtain⟨hx,⟨hv,hn⟩|⟨g,cap,cur,hv,hg,hh,h1,h2,h3,h4⟩⟩:=h
 ·subst hv
  exact⟨none,0,by rw[hn],⟨hl,by omega⟩,Or.inl hn⟩
 ·subst hv
  refine⟨_,cap,rfl,⟨hl,h1⟩,Or.inr ⟨g,0,rfl,⟨hg,?_⟩,qA.mk fun i hi=>?_⟩⟩
  ·rcases Nat.lt_or_ge g w.heap.size with h|h
   ·exact h
   ·rw[Array.getElem?_eq_none h] at hh
    cases hh
  ·have hc:∀j u,(zN l)[j]? = some u->w.cell? ⟨g,j,none⟩=some u:=fun j u hj=>by
    rw[<- h4] at hj;have hj':j<l.length * 2:=by
     rcases Nat.lt_or_ge j (l.length * 2) with h|h
     ·exact h
     ·rw[List.getElem?_eq_none (by rw[List.length_take]; omega)] at hj
      cases hj
    rw[List.getElem?_take_of_lt hj'] at hj;simpa [World.cell?,hh] using hj
   obtain⟨a,b⟩:=Ya l i hi;refine⟨⟨by simpa using hc _ _ a,hs _ (List.getElem_mem hi)⟩,by simpa using hc _ _ b⟩
theorem XJ:(Tryz.prog.info? 51).map (fun i=>(i.zero,i.size,i.bytes))=some (some (.agg #[.string ⟨#[]⟩,.int .i64 0]),2,24):=by kernel_rfl
theorem Kh {α:Type} {S:Nat->Prop} {P:α->Nat->Nat->Prop} {c:Nat} {l:List α} {a:Option Addr} {n cap:Nat} (h:ze S P c l (.slice a n cap)) {i j:Nat} (hij:i<=j) (hj:j<=l.length) :
  ∃a' cap',sliced a i j cap c=.slice a' (j - i) cap'/\ze S P c ((l.drop i).take (j - i)) (.slice a' (j - i) cap'):=by
 obtain⟨a',cap',e,⟨h1,h2⟩,h3⟩:=h;injection e with e1 e2 e3
 subst e1 e2 e3;have hlen:((l.drop i).take (j - i)).length=j - i:=by rw[List.length_take,List.length_drop]; omega
 refine⟨_,_,rfl,_,cap - i,by rw[hlen],⟨by rw[hlen]; unfold maxLen at h1 ⊢; omega,by rw[hlen]; omega⟩,?_⟩;rw[hlen]
 by_cases h0:j - i=0
 ·exact Or.inl h0
 ·rcases h3 with h3|⟨b,o,rfl,hb,hr⟩
  ·omega
  ·rw[if_neg (by omega)]
   refine Or.inr ⟨b,o+i * c,by rw[Option.map_some,Go.WideShapes.add_plain],hb,qA.mk fun k hk=>?_⟩;rw[hlen] at hk;have:=hr.get (i+k) (by omega);rw[List.getElem_take,List.getElem_drop];rw[show o+i * c+k * c=o+(i+k) * c by rw[Nat.add_mul]; omega];exact this
theorem zhv (W:World):(sizeOf (Tryz.prog.elem 37)).run Tryz.prog W=.ok 1 W:=by
 have:(sizeOf 9).run Tryz.prog W=.ok 1 W:=by simp[go_sem]
 exact this
theorem zdH (a:Option Addr) (n cap j:Nat) (x:Int) (hx:x=j) (h:j<=cap) (W:World):(Instr.slice 37 (.slice a n cap) none (some (.int .i64 x)) none).run Tryz.prog W=.ok (sliced a 0 j cap 1) W:=by
 subst hx;rw[run_slice_h W _ a n cap Tryz.underlying37 .i64 j (by omega) (by omega),zhv];simp
theorem zhw {S:Nat->Prop} {w:World} {u:List ByteArray} {a:Option Addr} {n cap:Nat} (h:ze S (zG w) 1 u (.slice a n cap)) {k:Nat} (hk:k<=u.length) :
  ∃a' cap',(∀W,(Instr.slice 37 (.slice a n cap) none (some (.int .i64 (k:Int))) none).run Tryz.prog W=.ok (.slice a' k cap') W)/\ze S (zG w) 1 (u.take k) (.slice a' k cap'):=by
 have hcap:k<=cap:=by
  obtain⟨_,_,e,⟨_,h2⟩,_⟩:=h;injection e with e1 e2 e3
  omega
 obtain⟨a',cap',e,hp⟩:=Kh h (i:=0) (j:=k) (Nat.zero_le _) hk;rw[List.drop_zero,Nat.sub_zero] at hp;rw[Nat.sub_zero] at e;exact⟨a',cap',fun W=>by rw[zdH a n cap k _ rfl hcap W,e],hp⟩
theorem zbp (s:ByteArray) (c:Int) (w:World) (h:s.size<=281474976710656) :
  Calls Tryz.prog 104 #[.string s,.int .i64 c] w fun e w'=>e=.returned (.agg #[.string s,.int .i64 c])/\Below w.heap.size w w':=by
 have HC:Hid (∀W,Calls Tryz.prog 57 #[.string s] W fun e w'=>e=.returned (.string s)/\Below W.heap.size W w'):=fun W=>qM s W h
 clear h;obtain⟨w2,hwe,hs2,hbel,q0,q1,f0,f1⟩:∃w2,w.alloc (.cells #[.string ⟨#[]⟩,.int .i64 0] 51)=w2/\w2.heap.size=w.heap.size+1/\Below w.heap.size w w2/\
   w2.cell? ⟨w.heap.size,0,none⟩=some (.string ⟨#[]⟩)/\w2.cell? ⟨w.heap.size,1,none⟩=some (.int .i64 0)/\w2.frozen? ⟨w.heap.size,0,none⟩=false/\w2.frozen? ⟨w.heap.size,1,none⟩=false:=
  ⟨_,rfl,by simp,(Below.refl _ _).alloc (Nat.le_refl _) _,by simp[go_sem],by simp[go_sem],by simp[go_sem],by simp[go_sem]⟩
 have HWe:=zd hwe;clear hwe;go_enter Tryz.func104,Tryz.ntmps104;go_wp2_with fail;rw[HWe.out];refine (HC.out _).mono ?_;rintro e w3 ⟨rfl,hb⟩;have g0:=(hb.cell (p:=⟨w.heap.size,0,none⟩) (by show w.heap.size<_; omega)).trans q0;have g1:=(hb.cell (p:=⟨w.heap.size,1,none⟩) (by show w.heap.size<_; omega)).trans q1;have g2:=(hb.frozen (p:=⟨w.heap.size,0,none⟩) (by show w.heap.size<_; omega)).trans f0;have g3:=(hb.frozen (p:=⟨w.heap.size,1,none⟩) (by show w.heap.size<_; omega)).trans f1;have HB:=zd (hbel.trans (hb.mono hbel.size));clear hb hbel q0 q1 f0 f1;go_wp2_with fail;exact bodyPost_ret (v:=.agg #[.string s,.int .i64 c]) (by simp[results,Tryz.results104,go_sem,g0,g1]) rfl ⟨rfl,(HB.out.setCell (Nat.le_refl _) _).setCell (Nat.le_refl _) _⟩
theorem zbq (S:Nat->Prop) (m:Mo) (l:List Im) (k:Nat) (vm v:Value) (w:World) (hS:∀b,S b->b<w.heap.size) (hm:qT S w m vm) (hv:ze S (yd S w) 4 l v) (hk:k<m.uses.length) :
  Calls Tryz.prog 115 #[vm,v,.int .i64 k] w fun e w'=>e=.returned (.int .i64 (qP m.uses l k))/\Below w.heap.size w w':=by
 have HC:Hid (∀W s,Below w.heap.size w W->Calls Tryz.prog 192 #[vm,v,.string s] W fun e w'=>∃a n cap a2 n2 cap2,e=.returned (.tuple #[.agg #[.slice a n cap,.slice a2 n2 cap2],.bool (qY m.uses l s)])/\Below W.heap.size W w'):=fun W s hW=>by
  refine (Jf S m l s vm v W (fun b hb=>Nat.lt_of_lt_of_le (hS b hb) hW.size) (hm.keep (Keeps.below hW hS)) (qd (Keeps.below hW hS) hv)).mono ?_;rintro e w' ⟨a,n,cap,a2,n2,cap2,rfl,_,hb⟩;exact⟨a,n,cap,a2,n2,cap2,rfl,hb⟩
 obtain⟨vu,vt,vf,rfl,hu,ht,hf⟩:=hm;have hlen:=hu.len;unfold maxLen at hlen;obtain⟨u1,u3,rfl⟩:=hu.is;obtain⟨t1,t2,t3,rfl⟩:=ht.slice;obtain⟨f1,f2,f3,rfl⟩:=hf.slice;obtain⟨a,n,cap,rfl⟩:=hv.slice;obtain⟨cu,cc,hrun,hcut⟩:=zhw hu (k:=k) (by omega);obtain⟨_,b,off,rfl,hb,a0,m0⟩:=hu.at hk;rw[Nat.mul_one] at a0;have hbk:=hS b hb;obtain⟨w2,hwe,hs2,hbel,q0,q1,q2⟩:∃w2,w.alloc (.cells #[.slice (some ⟨b,off,none⟩) m.uses.length u3,.slice t1 t2 t3,.slice f1 f2 f3] 41)=w2/\w2.heap.size=w.heap.size+1/\Below w.heap.size w w2/\
   w2.cell? ⟨w.heap.size,0,none⟩=some (.slice (some ⟨b,off,none⟩) m.uses.length u3)/\w2.cell? ⟨w.heap.size,1,none⟩=some (.slice t1 t2 t3)/\w2.cell? ⟨w.heap.size,2,none⟩=some (.slice f1 f2 f3):=
  ⟨_,rfl,by simp,(Below.refl _ _).alloc (Nat.le_refl _) _,by simp[go_sem],by simp[go_sem],by simp[go_sem]⟩
 have hk':(k:Int)<(m.uses.length:Int):=by omega
 have hk0:(0:Int)<=(k:Int):=by omega
 have HU:Hid (∀s,Calls Tryz.prog 191 #[.slice cu k cc,.string s] w2 fun e w'=>e=.returned (.bool (qu (m.uses.take k) s))/\Below w2.heap.size w2 w'):=fun s=>
  YO S _ s _ w2 (fun b hb=>Nat.lt_of_lt_of_le (hS b hb) hbel.size) (zU (Keeps.below hbel hS) hcut)
 have d0:=(hbel.cell (p:=⟨b,off+k,none⟩) hbk).trans a0;have HE:Hid (qP m.uses l k=if qu (m.uses.take k) m.uses[k]=true then 4 else if qY m.uses l m.uses[k]=true then 0 else 3):=by
  show qP m.uses l k=_;unfold qP;rw[Zy hk]
 have HBel:=zd hbel;have HWe:=zd hwe;have d0':(w.alloc (.cells #[.slice (some ⟨b,off,none⟩) m.uses.length u3,.slice t1 t2 t3,.slice f1 f2 f3] 41)).cell? ⟨b,off+k,none⟩=some (.string m.uses[k]):=by rw[hwe]; exact d0
 clear hu ht hf hv hcut a0 m0 hwe hbel;generalize m.uses[k]=s at *;go_enter Tryz.func115,Tryz.ntmps115;go_wp2_with fail;rw[HWe.out];refine (HU.out _).mono ?_;rintro e w3 ⟨rfl,hb3⟩;have c0:=(hb3.cell (p:=⟨w.heap.size,0,none⟩) (by show w.heap.size<_; omega)).trans q0;have c1:=(hb3.cell (p:=⟨w.heap.size,1,none⟩) (by show w.heap.size<_; omega)).trans q1;have c2:=(hb3.cell (p:=⟨w.heap.size,2,none⟩) (by show w.heap.size<_; omega)).trans q2;have HB3:=zd (HBel.out.trans (hb3.mono HBel.out.size));clear hb3 q0 q1 q2 d0 d0' hrun
 cases hh:qu (m.uses.take k) s with
 |true=>
  have HR:Hid (qP m.uses l k=4):=by rw[HE.out,hh]; exact if_pos rfl
  clear HE HU HC;go_wp2_with fail;go_ret;exact⟨by rw[HR.out]; rfl,HB3.out⟩
 |false=>
  have HC2:=zd (HC.out w3 s HB3.out);clear HU HC;go_wp2_with fail;refine HC2.out.mono ?_;rintro e w4 ⟨x1,x2,x3,y1,y2,y3,rfl,hb4⟩;have HB4:=zd (HB3.out.trans (hb4.mono HB3.out.size));clear hb4 HC2 c0 c1 c2
  cases ho:qY m.uses l s with
  |true=>
   have HR:Hid (qP m.uses l k=0):=by rw[HE.out,hh,ho]; rfl
   clear HE;go_wp2_with fail;go_ret;exact⟨by rw[HR.out]; rfl,HB4.out.alloc HB4.out.size _⟩
  |false=>
   have HR:Hid (qP m.uses l k=3):=by rw[HE.out,hh,ho]; rfl
   clear HE;go_wp2_with fail;go_ret;exact⟨by rw[HR.out]; rfl,HB4.out.alloc HB4.out.size _⟩
theorem zcR {α:Type} [Inhabited α] {H:Type} {enc:TypeId×Value->H} {W:World} {base:Nat} {spare:Nat->Bool} {held:Bool} {P:α->Nat->Nat->Prop} {c:Nat} {t e:TypeId} (ht:Tryz.prog.underlying t=some (.slice e)) (hc:Tryz.prog.cellsOf e=c) (h0:0<c)
  {fuel:Nat} {cs:List Value} {x:DataW H×List MemPlace} (h:DataW.trod enc Tryz.prog W base spare held fuel t cs=some x)
  (hel:∀(m:Nat) (cs':List Value) (x':DataW H×List MemPlace) (b o:Nat),m<fuel->DataW.trod enc Tryz.prog W base spare held m e cs'=some x'->cs'.length=c->zii W cs' b o->∃y:α,P y b o) :
  ∃v l,cs=[v]/\ze (fun b=>b<W.heap.size) P c l v:=by
 rcases DataW.trod_slice ht h with ⟨hcs,_⟩|⟨a,len,cap,elems,rest,n,hfu,rfl,_,_,hlc,hcm,hlen,hels,_,_⟩
 ·exact⟨_,[],hcs,none,0,rfl,⟨by simp,by simp⟩,Or.inl rfl⟩
 ·by_cases hl0:len=0
  ·subst hl0
   exact⟨_,[],rfl,_,cap,rfl,⟨by simp,by simp⟩,Or.inl rfl⟩
  ·have each:∀i,i<len->∃cs' x',W.cells? base (a.add (i * c)) c=some cs'/\DataW.trod enc Tryz.prog W base spare held n e cs'=some x':=fun i hi=>by
    have:=hels i hi;rw[hc,List.getElem?_eq_getElem (by omega)] at this;obtain⟨cs',h1,h2⟩:=Option.bind_eq_some_iff.1 this;exact⟨cs',_,h1,h2⟩
   obtain⟨b,off,spot⟩:=a;have hspot:spot=none:=by
    obtain⟨cs',x',h1,_⟩:=each 0 (by omega);obtain⟨_,hl,hce⟩:=World.cells?_some h1;have:=hce 0 h0;rw[List.getElem?_eq_getElem (by omega)] at this;simpa [Addr.add] using World.cell?_spot this
   subst hspot;have each2:∀i,i<len->∃y:α,P y b (off+i * c):=fun i hi=>by
    obtain⟨cs',x',h1,h2⟩:=each i hi;obtain⟨_,hl,hce⟩:=World.cells?_some h1;have cell:∀j,j<cs'.length->W.cell? ⟨b,off+i * c+j,none⟩=cs'[j]?:=fun j hj=>by
     have:=hce j (by omega);rw[Go.WideShapes.add_plain,Go.WideShapes.add_plain] at this;exact this
    refine hel n cs' x' b (off+i * c) (by omega) h2 hl ⟨?_,cell⟩;have:=cell 0 (by omega);rw[List.getElem?_eq_getElem (by omega)] at this;exact World.block_lt_of_cell? W _ this
   obtain⟨q,hq⟩:=Deep.choose_lt each2;have hb:b<W.heap.size:=by
    obtain⟨cs',x',h1,_⟩:=each 0 (by omega);obtain⟨_,hl,hce⟩:=World.cells?_some h1;have:=hce 0 h0;rw[List.getElem?_eq_getElem (by omega),Go.WideShapes.add_plain,Go.WideShapes.add_plain] at this;exact World.block_lt_of_cell? W _ this
   refine⟨_,(List.range len).map q,rfl,some ⟨b,off,none⟩,cap,by simp,⟨by simp; omega,by simp; omega⟩,Or.inr ⟨b,off,rfl,hb,qA.mk fun i hi=>?_⟩⟩;have hi':i<len:=by simpa using hi
   simpa using hq i hi'
instance:Inhabited Ty:=⟨.mk 0 .empty .empty []⟩
instance:Inhabited Ex:=⟨.mk 0 0 .empty .empty []⟩
instance:Inhabited Fd:=⟨⟨.empty,default⟩⟩
instance:Inhabited Fu:=⟨⟨.empty,.empty,[],default,default⟩⟩
section
variable {H:Type} {enc:TypeId×Value->H} {W:World} {base:Nat} {spare:Nat->Bool} {held:Bool}
def Zi (m:Mo):Prop:=m.uses.length<=reachBytes/\m.types.length<=reachBytes/\m.funcs.length<=reachBytes
end
theorem xi {s:ByteArray} (h:zf s=true):s.size<=8:=by
 unfold zf vG at h;simp only[Bool.and_eq_true] at h;have:=h.1.1;simp[qj] at this;omega
theorem Qm {m:Mo} (h:zI m=0) (hz:Zi m):m.uses.length+m.types.length+m.funcs.length<=24:=by
 have hr:=reachBytes_lt;obtain⟨z1,z2,z3⟩:=hz;unfold zI at h
 by_cases hc:24<wrap64 (wrap64 ((m.uses.length:Int)+m.types.length)+m.funcs.length)
 ·rw[if_pos hc] at h; exact absurd h (by decide)
 ·unfold wrap64 at hc
  omega
theorem Vp {m:Mo} (h:zI m=0):∀s∈m.uses,zf s=true:=by
 unfold zI at h
 by_cases hc:24<wrap64 (wrap64 ((m.uses.length:Int)+m.types.length)+m.funcs.length)
 ·rw[if_pos hc] at h; exact absurd h (by decide)
 ·rw[if_neg hc] at h
  by_cases hu:zt qx m.uses≠0
  ·rw[if_pos hu] at h; exact absurd h hu
  ·intro s hs
   obtain⟨k,hk,rfl⟩:=List.getElem_of_mem hs;have:=qN qx m.uses (by omega) k hk;unfold qx at this
   by_cases hi:zf m.uses[k]=true
   ·exact hi
   ·rw[if_neg hi] at this; exact absurd this (by decide)
theorem Zb {m:Mo} (h:zI m=0):∀f∈m.types,zf f.name=true/\zl f.is 1=0:=by
 unfold zI at h
 by_cases hc:24<wrap64 (wrap64 ((m.uses.length:Int)+m.types.length)+m.funcs.length)
 ·rw[if_pos hc] at h; exact absurd h (by decide)
 ·rw[if_neg hc] at h
  by_cases hu:zt qx m.uses≠0
  ·rw[if_pos hu] at h; exact absurd h hu
  ·rw[if_neg hu] at h
   by_cases ht:zt zF m.types≠0
   ·rw[if_pos ht] at h; exact absurd h ht
   ·intro s hs
    obtain⟨k,hk,rfl⟩:=List.getElem_of_mem hs;have:=qN zF m.types (by omega) k hk;unfold zF at this
    by_cases hi:zf (m.types[k]).name=true
    ·rw[if_pos hi] at this; exact⟨hi,this⟩
    ·rw[if_neg hi] at this; exact absurd this (by decide)
theorem zgy (S:Nat->Prop) (m:Mo) (l:List Im) (vm v:Value) (w:World) (hS:∀b,S b->b<w.heap.size) (hm:qT S w m vm) (hv:ze S (yd S w) 4 l v) (hz:m.uses.length<=24) (hn:∀s∈m.uses,s.size<=8) :
  Calls Tryz.prog 62 #[vm,v] w fun e w'=>∃u,e=.returned u/\ze (fun b=>w.heap.size<=b/\b<w'.heap.size) (xp w') 2 (z7 m.uses l m.uses.length) u/\Below w.heap.size w w':=by
 have HC:Hid (∀W k,k<m.uses.length->Below w.heap.size w W->Calls Tryz.prog 115 #[vm,v,.int .i64 (k:Nat)] W fun e w'=>e=.returned (.int .i64 (qP m.uses l k))/\Below W.heap.size W w'):=fun W k hk hW=>
  zbq S m l k vm v W (fun b hb=>Nat.lt_of_lt_of_le (hS b hb) hW.size) (hm.keep (Keeps.below hW hS)) (qd (Keeps.below hW hS) hv) hk
 obtain⟨vu,vt,vf,rfl,hu,ht,hf⟩:=hm;have HU:=zd hu;have hlen:=hu.len;unfold maxLen at hlen;obtain⟨u1,u3,rfl⟩:=hu.is;obtain⟨t1,t2,t3,rfl⟩:=ht.slice;obtain⟨f1,f2,f3,rfl⟩:=hf.slice;obtain⟨a,n,cap,rfl⟩:=hv.slice;obtain⟨w0,hwe,hs0,hA,q0,q1,q2⟩:∃w0,w.alloc (.cells #[.slice u1 m.uses.length u3,.slice t1 t2 t3,.slice f1 f2 f3] 41)=w0/\w0.heap.size=w.heap.size+1/\Below w.heap.size w w0/\
   w0.cell? ⟨w.heap.size,0,none⟩=some (.slice u1 m.uses.length u3)/\w0.cell? ⟨w.heap.size,1,none⟩=some (.slice t1 t2 t3)/\w0.cell? ⟨w.heap.size,2,none⟩=some (.slice f1 f2 f3):=
  ⟨_,rfl,by simp,(Below.refl _ _).alloc (Nat.le_refl _) _,by simp[go_sem],by simp[go_sem],by simp[go_sem]⟩
 have HBox:Hid (∀W,Below w0.heap.size w0 W->(W.cell? ⟨w.heap.size,0,none⟩=some (.slice u1 m.uses.length u3)/\W.cell? ⟨w.heap.size,1,none⟩=some (.slice t1 t2 t3)/\W.cell? ⟨w.heap.size,2,none⟩=some (.slice f1 f2 f3))/\Below w.heap.size w W/\w.heap.size+1<=W.heap.size):=fun W h=>
  ⟨⟨(h.cell (p:=⟨w.heap.size,0,none⟩) (by show w.heap.size<_; omega)).trans q0,(h.cell (p:=⟨w.heap.size,1,none⟩) (by show w.heap.size<_; omega)).trans q1,(h.cell (p:=⟨w.heap.size,2,none⟩) (by show w.heap.size<_; omega)).trans q2⟩,hA.trans (h.mono hA.size),by have:=h.size; omega⟩
 have HWe:=zd hwe;have HN:Hid (∀k (hk:k<m.uses.length),(m.uses[k]).size<=8):=fun k hk=>hn _ (List.getElem_mem hk)
 have HSz:Hid (∀t∈z7 m.uses l m.uses.length,t.wh.size<=maxLen):=by
  show ∀t∈z7 m.uses l m.uses.length,t.wh.size<=maxLen;have:∀k,k<=m.uses.length->∀t∈z7 m.uses l k,t.wh.size<=maxLen:=by
   intro k
   induction k with
   |zero=>intro _ t ht; cases ht
   |succ k ih=>
    intro hk t ht;rw[z7] at ht
    rcases List.mem_append.1 ht with h|h
    ·exact ih (by omega) t h
    ·unfold ZT at h
     by_cases hc:qP m.uses l k=0
     ·rw[if_pos hc] at h; cases h
     ·rw[if_neg hc] at h
      rw[List.mem_singleton.1 h];show (kw m.uses k).size<=_;rw[Zy (by omega)];have:=hn _ (List.getElem_mem (show k<m.uses.length by omega));unfold maxLen; omega
  exact this _ (Nat.le_refl _)
 clear hu ht hf hv hwe hA q0 q1 q2 hn;obtain⟨i0,hi,hz0,hz1,hz2⟩:=info_parts XJ;go_enter Tryz.func62,Tryz.ntmps62;go_wp2_with fail;rw[HWe.out];clear HWe
 go_loopw [5,12] (fun v i wr=>∃k:Nat,k<=m.uses.length/\i=.int .i64 k/\wr.ownsRow (w.heap.size+1) 51 2 v (z7 m.uses l k).length (zN (z7 m.uses l k))/\Below w0.heap.size w0 wr) (fun _ i _=>m.uses.length - (intOf i).toNat)
 case atStart=>exact⟨0,Nat.zero_le _,rfl,World.ownsRow_nil _ _ _ _,Below.refl _ _⟩
 case round=>
  obtain⟨k,hk,rfl,hown,hbl⟩:=hrel;obtain⟨⟨c0,c1,c2⟩,hbw,hsz⟩:=HBox.out _ hbl;have HOwn:=zd hown;have HBl:=zd hbl;have HBw:=zd hbw;clear hown hbl hbw
  by_cases hlt:k<m.uses.length
  ·have hlt':(k:Int)<(m.uses.length:Int):=by omega
   obtain⟨_,b,off,rfl,hb,a0,m0⟩:=HU.out.at hlt;rw[Nat.mul_one] at a0;have hbk:=hS b hb;have d0:=(HBw.out.cell (p:=⟨b,off+k,none⟩) hbk).trans a0;have HC2:=zd (HC.out wr k hlt HBw.out);have hnk:=HN.out k hlt;have hnm:kw m.uses k=m.uses[k]:=Zy hlt;have HNm:=zd hnm;have HLe:=zd (Z4 m.uses l k);clear a0 m0 hnm HC HU;generalize m.uses[k]=s at *;go_wp2_with fail;refine HC2.out.mono ?_;rintro e w1 ⟨rfl,hb1⟩;have hbl1:=HBl.out.trans (hb1.mono HBl.out.size);obtain⟨⟨e0,e1,e2⟩,hbw1,hsz1⟩:=HBox.out _ hbl1;have HOwn1:=zd (qs HOwn.out hb1);have HBl1:=zd hbl1;clear c0 c1 c2 hb1 hbl1 hbw1 HC2 HOwn d0
   by_cases hc:qP m.uses l k=0
   ·have hc':(qP m.uses l k != 0)=false:=by simp[hc]
    have HZ:=zd (zaD hc);clear hc;generalize qP m.uses l k=c at *;go_wp2_with fail;exact⟨⟨k+1,by omega,by go_num,by rw[HZ.out]; exact HOwn1.out,HBl1.out⟩,by simp[intOf]; omega⟩
   ·have hc':(qP m.uses l k != 0)=true:=by simp[hc]
    have HZ:=zd (zbo hc);rw[HNm.out] at HZ;clear hc HNm;generalize qP m.uses l k=c at *;go_wp2_with fail;refine (zbp s c _ (by omega)).mono ?_;rintro e w2 ⟨rfl,hb2⟩;have hbl2:=HBl1.out.trans (hb2.mono HBl1.out.size);have hown2:=qs HOwn1.out hb2;obtain⟨-,hbw2,hsz2⟩:=HBox.out _ hbl2;have HBl2:=zd hbl2;clear e0 e1 e2 hb2 hbl2 hbw2 HOwn1 HBl1;go_wp2_with (at_builtin; refine wpList_append_own _ rfl _ _ 27 rfl (w.heap.size+1) 51 i0 (.agg #[.string ⟨#[]⟩,.int .i64 0]) 2 24 Tryz.underlying27 hi hz0 hz1 hz2 rfl (by decide) _ _ _ rfl (hown2.alloc _) ⟨w2.heap.size,0,none⟩ 1 1 [.string s,.int .i64 c] rfl rfl ?c1 ?c2 ?c3 ?c4 ?c5 ?_)
    case c1=>exact cell_two_new _ _ _ _
    case c2=>
     intro u hu;simp at hu
     rcases hu with rfl|rfl <;> rfl
    case c3=>have:=HLe.out; unfold maxLen; omega
    case c4=>have:=HLe.out; omega
    case c5=>simp; omega
    intro v' w3 hown3 hgrow _;have hrow:=vK hown2;have HL3:Hid (Below w0.heap.size w0 w3):=(HBl2.out.alloc (by omega) (.cells #[.string s,.int .i64 c] 51)).grown hgrow (by simp; omega) (fun j hj=>by have:=hrow j hj; omega);have HO3:Hid (w3.ownsRow (w.heap.size+1) 51 2 v' (z7 m.uses l (k+1)).length (zN (z7 m.uses l (k+1)))):=by
     show w3.ownsRow _ _ _ _ _ _;rw[HZ.out,Zz,List.length_append];exact hown3
    clear hown3 hgrow hrow hown2;go_wp2_with fail;exact⟨⟨k+1,by omega,by go_num,HO3.out,HL3.out⟩,by simp[intOf]; omega⟩
  ·have hnl:¬(k:Int)<(m.uses.length:Int):=by omega
   have hke:k=m.uses.length:=by omega
   subst hke;have HFin:=zd (kN HOwn.out (Nat.le_trans (Z4 _ _ _) (by unfold maxLen; omega)) HSz.out);clear HOwn HU HC;go_wp2_with fail;go_ret;refine⟨_,rfl,HFin.out.imp (fun b hb=>⟨by omega,hb.2⟩) (fun _ _ _ _ _ h=>h),HBw.out⟩
def ZA (B b o:Nat) (p q r:Value) (s:ByteArray) (wr W:World):Prop:=
 Below wr.heap.size wr W/\W.cell? ⟨B,0,none⟩=some p/\W.cell? ⟨B,1,none⟩=some q/\W.cell? ⟨B,2,none⟩=some r/\W.cell? ⟨b,o,none⟩=some (.string s)
theorem ZA.below {B b o:Nat} {p q r:Value} {s:ByteArray} {wr W:World} (h:ZA B b o p q r s wr W):Below wr.heap.size wr W:=h.1
theorem ZA.later {B b o:Nat} {p q r:Value} {s:ByteArray} {wr W W':World} (h:ZA B b o p q r s wr W) (hb:Below W.heap.size W W'):ZA B b o p q r s wr W':=by
 obtain⟨h0,h1,h2,h3,h4⟩:=h;exact⟨h0.trans (hb.mono h0.size),(hb.cell (World.block_lt_of_cell? _ _ h1)).trans h1,(hb.cell (World.block_lt_of_cell? _ _ h2)).trans h2,(hb.cell (World.block_lt_of_cell? _ _ h3)).trans h3,(hb.cell (World.block_lt_of_cell? _ _ h4)).trans h4⟩
theorem ZA.box {B b o:Nat} {p q r:Value} {s:ByteArray} {wr W:World} {x:Obj} (h:ZA B b o p q r s wr W):ZA B b o p q r s wr (W.alloc x):=h.later ((Below.refl _ _).alloc (Nat.le_refl _) _)
theorem ZA.sets {B b o g:Nat} {p q r:Value} {s:ByteArray} {wr W:World} {u v:Value} (h:ZA B b o p q r s wr W) (hg:wr.heap.size<=g) (hB:B<wr.heap.size) (hb:b<wr.heap.size):ZA B b o p q r s wr ((W.setCell ⟨g,0,none⟩ u).setCell ⟨g,1,none⟩ v):=by
 obtain⟨h0,h1,h2,h3,h4⟩:=h;have e:∀(c:Addr),c.block≠g->((W.setCell ⟨g,0,none⟩ u).setCell ⟨g,1,none⟩ v).cell? c=W.cell? c:=fun c hc=>by
  rw[World.cell?_setCell_far _ _ _ _ (by show g≠c.block; omega),World.cell?_setCell_far _ _ _ _ (by show g≠c.block; omega)]
 exact⟨(h0.setCell hg _).setCell hg _,(e _ (by show B≠g; omega)).trans h1,(e _ (by show B≠g; omega)).trans h2,(e _ (by show B≠g; omega)).trans h3,(e _ (by show b≠g; omega)).trans h4⟩
theorem ZA.swap {B b o:Nat} {p q r:Value} {s:ByteArray} {wr W:World} {x y:Obj} (h:ZA B b o p q r s wr (W.alloc x)) (hl:wr.heap.size<=W.heap.size) (hB:B<wr.heap.size) (hb:b<wr.heap.size):ZA B b o p q r s wr (W.alloc y):=by
 obtain⟨h0,h1,h2,h3,h4⟩:=h;have e:∀c,c<wr.heap.size->(W.alloc y).heap[c]? = (W.alloc x).heap[c]?:=fun c hc=>by
  rw[heap_alloc_old _ _ (by omega),heap_alloc_old _ _ (by omega)]
 refine⟨⟨h0.os,h0.tape,h0.output,by simp; omega,fun c hc=>(e c hc).trans (h0.block c hc)⟩,?_,?_,?_,?_⟩
 ·rw[World.cell?_of_block (e B hB)]; exact h1
 ·rw[World.cell?_of_block (e B hB)]; exact h2
 ·rw[World.cell?_of_block (e B hB)]; exact h3
 ·rw[World.cell?_of_block (e b hb)]; exact h4
theorem ze8 (s:ByteArray) (c:Int):∀u∈([.string s,.int .i64 c]:List Value),u.oneCell'=true:=by
 intro u hu;simp at hu
 rcases hu with rfl|rfl <;> rfl
theorem zdI {u:List ByteArray} {l:List Im} (hn:∀s∈u,s.size<=8):∀t∈z7 u l u.length,t.wh.size<=maxLen:=by
 have:∀k,k<=u.length->∀t∈z7 u l k,t.wh.size<=maxLen:=by
  intro k
  induction k with
  |zero=>intro _ t ht; cases ht
  |succ k ih=>
   intro hk t ht;rw[z7] at ht
   rcases List.mem_append.1 ht with h|h
   ·exact ih (by omega) t h
   ·unfold ZT at h
    by_cases hc:qP u l k=0
    ·rw[if_pos hc] at h; cases h
    ·rw[if_neg hc] at h
     rw[List.mem_singleton.1 h];show (kw u k).size<=_;rw[Zy (by omega)];have:=hn _ (List.getElem_mem (show k<u.length by omega));unfold maxLen; omega
 exact this _ (Nat.le_refl _)
theorem KV {W w':World} {a b:Value} {t:TypeId} (hb:Below (W.alloc (.cells #[a,b] t)).heap.size (W.alloc (.cells #[a,b] t)) w'):w'.cell? ⟨W.heap.size,0,none⟩=some a/\w'.cell? ⟨W.heap.size,1,none⟩=some b/\w'.frozen? ⟨W.heap.size,0,none⟩=false/\w'.frozen? ⟨W.heap.size,1,none⟩=false:=by
 have hl:W.heap.size<(W.alloc (.cells #[a,b] t)).heap.size:=by simp
 exact⟨(hb.cell (p:=⟨W.heap.size,0,none⟩) hl).trans (by simp[go_sem]),(hb.cell (p:=⟨W.heap.size,1,none⟩) hl).trans (by simp[go_sem]),(hb.frozen (p:=⟨W.heap.size,0,none⟩) hl).trans (by simp[go_sem]),(hb.frozen (p:=⟨W.heap.size,1,none⟩) hl).trans (by simp[go_sem])⟩
def jf (f:Fc) (s:ByteArray):Nat:=zj (fun k:Kn=>sEq k.name s) f.types
def ja (f:Fc) (s:ByteArray):ByteArray:=((f.types[jf f s]?).map Kn.is).getD ⟨#[]⟩
def vF (f:Fc) (s:ByteArray):Int:=if jf f s<f.types.length then 0 else 6
theorem zgz {f:Fc} {s:ByteArray} {k:Nat} (hk:k<f.types.length) (h:jf f s=k):ja f s=f.types[k].is/\vF f s=0:=by
 unfold ja vF;rw[h,List.getElem?_eq_getElem hk,if_pos hk];exact⟨rfl,rfl⟩
theorem zhx {f:Fc} {s:ByteArray} (h:f.types.length<=jf f s):ja f s=⟨#[]⟩/\vF f s=6:=by
 unfold ja vF;rw[List.getElem?_eq_none h,if_neg (by omega)];exact⟨rfl,rfl⟩
theorem zgA (S:Nat->Prop) (f:Fc) (s:ByteArray) (v:Value) (w:World) (hS:∀b,S b->b<w.heap.size) (hv:qC S w f v) (hz:zH f) :
  Calls Tryz.prog 296 #[v,.string s] w fun e w'=>e=.returned (.tuple #[.string (ja f s),.int .i64 (vF f s)])/\Below w.heap.size w w':=by
 have hr:=reachBytes_lt;obtain⟨vt,vf,rfl,ht,hf⟩:=hv;have HT:=zd ht;have hlen:=ht.len;unfold maxLen at hlen;obtain⟨a,cap,rfl⟩:=ht.is;obtain⟨a2,n2,cap2,rfl⟩:=hf.slice;obtain⟨w2,hwe,hs2,p0,p1,hbel⟩:∃w2,(w.alloc (.cells #[.slice a f.types.length cap,.slice a2 n2 cap2] 26)).alloc (.cells #[.string s] 9)=w2/\w2.heap.size=w.heap.size+2/\
   w2.cell? ⟨w.heap.size,0,none⟩=some (.slice a f.types.length cap)/\w2.cell? ⟨w.heap.size+1,0,none⟩=some (.string s)/\Below w.heap.size w w2:=
  ⟨_,rfl,by simp,by simp[go_sem],by simp[go_sem],((Below.refl _ _).alloc (Nat.le_refl _) _).alloc (by simp) _⟩
 have HC:Hid (Calls Tryz.prog 317 #[.slice a f.types.length cap,.func (.func 318) #[] #[.pointer (some ⟨w.heap.size+1,0,none⟩)]] w2 fun e w'=>e=.returned (.int .i64 (zC (fun k:Kn=>sEq k.name s) f.types))/\Below w2.heap.size w2 w'):=
  zgt S _ _ _ _ w2 (fun b hb=>Nat.lt_of_lt_of_le (hS b hb) hbel.size) (vj (Keeps.below hbel hS) ht) p1
 have HWe:=zd hwe;have HBel:=zd hbel;clear ht hf hwe hbel p1
 by_cases hat:jf f s<f.types.length
 ·obtain⟨_,b,off,rfl,hb,⟨_,_⟩,a1,_⟩:=HT.out.at hat
  have hbk:=hS b hb;have hI:zC (fun k:Kn=>sEq k.name s) f.types=(jf f s:Int):=if_pos hat;have HR:=zd (zgz hat rfl);have HCl:Hid (∀W,Calls Tryz.prog 57 #[.string f.types[jf f s].is] W fun e w'=>e=.returned (.string f.types[jf f s].is)/\Below W.heap.size W w'):=fun W=>qM _ W (by have:=(hz.1.2 _ (List.getElem_mem hat)).2; omega)
  have HA1:=zd a1;clear hz a1 HT;rw[hI] at HC;generalize f.types[jf f s].is=y at *;generalize jf f s=k at *;have hk':(k:Int)<(f.types.length:Int):=by omega
  have hk0:¬(k:Int)<0:=by omega
  have hk1:(0:Int)<=(k:Int):=by omega
  clear hI;go_enter Tryz.func296,Tryz.ntmps296;go_wp2_with fail;rw[HWe.out];refine HC.out.mono ?_;rintro e w3 ⟨rfl,hb3⟩;have c0:=(hb3.cell (p:=⟨w.heap.size,0,none⟩) (by show w.heap.size<_; omega)).trans p0;have hb4:=HBel.out.trans (hb3.mono HBel.out.size);have d1:=(hb4.cell (p:=⟨b,off+k * 2+1,none⟩) hbk).trans HA1.out;have HB4:=zd hb4;clear hb3 hb4 p0;go_wp2_with fail;refine (HCl.out _).mono ?_;rintro e w5 ⟨rfl,hb5⟩;have HB5:=zd (HB4.out.trans (hb5.mono HB4.out.size));clear hb5;go_wp2_with fail;go_ret2;exact⟨by rw[HR.out.1,HR.out.2]; rfl,HB5.out⟩
 ·have hI:zC (fun k:Kn=>sEq k.name s) f.types=-1:=if_neg hat
  have HR:=zd (zhx (f:=f) (s:=s) (by omega));clear hz HT;rw[hI] at HC;clear hI hat;go_enter Tryz.func296,Tryz.ntmps296;go_wp2_with fail;rw[HWe.out];refine HC.out.mono ?_;rintro e w3 ⟨rfl,hb3⟩;have HB4:=zd (HBel.out.trans (hb3.mono HBel.out.size));clear hb3 p0;go_wp2_with fail;go_ret2;exact⟨by rw[HR.out.1,HR.out.2]; rfl,HB4.out⟩
theorem zcc (B:Nat) (x s:ByteArray) (k:Int) (f n:ByteArray) (a:Option Addr) (m cap:Nat) (w:World) (hp:w.cell? ⟨B,0,none⟩=some (.string s)) :
  Calls Tryz.prog 247 #[.agg #[.string x,.int .i64 k,.string f,.string n,.slice a m cap],.pointer (some ⟨B,0,none⟩)] w fun e w'=>e=.returned (.bool (sEq x s))/\Below w.heap.size w w':=by
 have hlt:B<w.heap.size:=World.block_lt_of_cell? _ _ hp;have HE:Hid (sEq x s=(x.toList==s.toList)):=rfl;go_enter Tryz.func247,Tryz.ntmps247
 go_wp2
 go_ret;exact⟨by rw[HE.out]; rfl,(Below.refl _ _).alloc (Nat.le_refl _) _⟩
theorem Zc {S:Nat->Prop} {w:World} {x:Fd} {b o:Nat} (h:qO S w x b o):∃k f n a m cap,w.cell? ⟨b,o,none⟩=some (.string x.name)/\w.cell? ⟨b,o+1,none⟩=some (.int .i64 k)/\w.cell? ⟨b,o+2,none⟩=some (.string f)/\w.cell? ⟨b,o+3,none⟩=some (.string n)/\w.cell? ⟨b,o+4,none⟩=some (.slice a m cap)/\xJ S w x.is k f n (.slice a m cap):=by
 obtain⟨⟨h0,_⟩,h1⟩:=h;obtain⟨k,f,n,va,c0,c1,c2,c3,hc⟩:=qL.1 h1;obtain⟨a,m,cap,rfl⟩:∃a m cap,va=.slice a m cap:=by
  obtain⟨_,_,_,_,hs⟩:=hc;exact ze.slice hs
 exact⟨k,f,n,a,m,cap,h0,c0,c1,c2,c3,hc⟩
theorem zgB (S:Nat->Prop) (l:List Fd) (s:ByteArray) (B:Nat) (v:Value) (w:World) (hS:∀b,S b->b<w.heap.size) (hv:ze S (qO S w) 5 l v) (hp:w.cell? ⟨B,0,none⟩=some (.string s)) :
  Calls Tryz.prog 246 #[v,.func (.func 247) #[] #[.pointer (some ⟨B,0,none⟩)]] w fun e w'=>e=.returned (.int .i64 (zC (fun k:Fd=>sEq k.name s) l))/\Below w.heap.size w w':=by
 have HV:=zd hv;have hlen:=hv.len;unfold maxLen at hlen;obtain⟨a,cap,rfl⟩:=hv.is;have HP:=zd hp;have HBl:=zd (World.block_lt_of_cell? _ _ hp);clear hv hp;go_enter Tryz.func246,Tryz.ntmps246;go_wp2_with fail
 go_loopw [8] (fun i wr=>∃j:Nat,j<=l.length/\i=.int .i64 j/\zj (fun k:Fd=>sEq k.name s) l=j+zj (fun k:Fd=>sEq k.name s) (l.drop j)/\Below w.heap.size w wr) (fun i _=>l.length - (intOf i).toNat)
 case atStart=>exact⟨0,Nat.zero_le _,rfl,(Nat.zero_add _).symm,Below.refl _ _⟩
 case round=>
  obtain⟨j,hj,rfl,hq,hbl⟩:=hrel;have HQ:=zd hq;have HBW:=zd hbl;clear hq
  by_cases hlt:j<l.length
  ·have hlt':(j:Int)<(l.length:Int):=by omega
   obtain⟨_,b,off,rfl,hb,hat⟩:=HV.out.at hlt;have hbk:=hS b hb;obtain⟨kd,fo,na,p1,p2,p3,a0,a1,a2,a3,a4,_⟩:=Zc hat;have d0:=(hbl.cell (p:=⟨b,off+j * 5,none⟩) hbk).trans a0;have d1:=(hbl.cell (p:=⟨b,off+j * 5+1,none⟩) hbk).trans a1;have d2:=(hbl.cell (p:=⟨b,off+j * 5+2,none⟩) hbk).trans a2;have d3:=(hbl.cell (p:=⟨b,off+j * 5+3,none⟩) hbk).trans a3;have d4:=(hbl.cell (p:=⟨b,off+j * 5+4,none⟩) hbk).trans a4;have HC:Hid (Calls Tryz.prog 247 #[.agg #[.string l[j].name,.int .i64 kd,.string fo,.string na,.slice p1 p2 p3],.pointer (some ⟨B,0,none⟩)] wr fun e w'=>e=.returned (.bool (sEq l[j].name s))/\Below wr.heap.size wr w'):=zcc B _ s _ _ _ _ _ _ wr ((hbl.cell HBl.out).trans HP.out);have HYes:Hid (sEq l[j].name s=true->zj (fun k:Fd=>sEq k.name s) l=j):=fun h=>by
    rw[HQ.out,jG hlt h]; rfl
   have HNo:Hid (sEq l[j].name s=false->zj (fun k:Fd=>sEq k.name s) l=(j+1)+zj (fun k:Fd=>sEq k.name s) (l.drop (j+1))):=fun h=>by
    rw[HQ.out,kq hlt h]; omega
   clear a0 a1 a2 a3 a4 hat HV hbl HQ;generalize l[j].name=x at *
   cases hx:sEq x s with
   |true=>
    rw[hx] at HC;have HI:Hid (zC (fun k:Fd=>sEq k.name s) l=(j:Int)):=by
     show _=_;unfold zC;rw[HYes.out hx,if_pos hlt]
    clear HYes HNo hx;go_wp2_with fail;refine HC.out.mono ?_;rintro e w1 ⟨rfl,hb1⟩;have HB1:=zd (HBW.out.trans (hb1.mono HBW.out.size));clear hb1;go_wp2_with fail;go_ret;exact⟨by rw[HI.out]; rfl,HB1.out⟩
   |false=>
    rw[hx] at HC;have HN:=zd (HNo.out hx);clear HYes HNo hx;go_wp2_with fail;refine HC.out.mono ?_;rintro e w1 ⟨rfl,hb1⟩;have HB1:=zd (HBW.out.trans (hb1.mono HBW.out.size));clear hb1;go_wp2_with fail;exact⟨⟨j+1,by omega,by go_num,HN.out,HB1.out⟩,by simp[intOf]; omega⟩
  ·have hnl:¬(j:Int)<(l.length:Int):=by omega
   have HI:Hid (zC (fun k:Fd=>sEq k.name s) l=-1):=by
    show _=_;unfold zC;rw[HQ.out,jH (by omega),if_neg (by omega)]
   clear HV hbl HQ;go_wp2_with fail;go_ret;exact⟨by rw[HI.out]; rfl,HBW.out⟩
def zq (m:Mo) (s:ByteArray):Nat:=zj (fun f:Fd=>sEq f.name s) m.types
theorem KW (S:Nat->Prop) (l:List Fd) (s:ByteArray) (v:Value) (w:World) (hS:∀b,S b->b<w.heap.size) (hv:ze S (qO S w) 5 l v) :
  Calls Tryz.prog 174 #[v,.string s] w fun e w'=>e=.returned (.int .i64 (zC (fun k:Fd=>sEq k.name s) l))/\Below w.heap.size w w':=by
 obtain⟨w2,hwe,hs2,p1,hbel⟩:∃w2,w.alloc (.cells #[.string s] 9)=w2/\w2.heap.size=w.heap.size+1/\w2.cell? ⟨w.heap.size,0,none⟩=some (.string s)/\Below w.heap.size w w2:=
  ⟨_,rfl,by simp,by simp[go_sem],(Below.refl _ _).alloc (Nat.le_refl _) _⟩
 have HC:Hid (Calls Tryz.prog 246 #[v,.func (.func 247) #[] #[.pointer (some ⟨w.heap.size,0,none⟩)]] w2 fun e w'=>e=.returned (.int .i64 (zC (fun k:Fd=>sEq k.name s) l))/\Below w2.heap.size w2 w'):=
  zgB S _ _ _ _ w2 (fun b hb=>Nat.lt_of_lt_of_le (hS b hb) hbel.size) (zP (Keeps.below hbel hS) hv) p1
 obtain⟨a,n,cap,rfl⟩:=hv.slice;have HWe:=zd hwe;have HBel:=zd hbel;clear hv hwe hbel p1;go_enter Tryz.func174,Tryz.ntmps174;go_wp2_with fail;rw[HWe.out];refine HC.out.mono ?_;rintro e w3 ⟨rfl,hb3⟩;have HB:=zd (HBel.out.trans (hb3.mono HBel.out.size));clear hb3;go_wp2_with fail;go_ret;exact⟨rfl,HB.out⟩
def jN (u:List ByteArray) (l:List Im) (o n:ByteArray):ByteArray:=if (qY u l o&&vF (zK u l o) n==0)=true then ja (zK u l o) n else ⟨#[]⟩
def Qn (u:List ByteArray) (l:List Im) (o n:ByteArray):Int:=if (qY u l o&&vF (zK u l o) n==0)=true then 0 else 5
theorem zbr (S:Nat->Prop) (m:Mo) (l:List Im) (o n:ByteArray) (vm v:Value) (w:World) (hS:∀b,S b->b<w.heap.size) (hm:qT S w m vm) (hv:ze S (yd S w) 4 l v) (hz:∀i∈l,zH i.face) :
  Calls Tryz.prog 259 #[vm,v,.string o,.string n] w fun e w'=>e=.returned (.tuple #[.string (jN m.uses l o n),.int .i64 (Qn m.uses l o n)])/\Below w.heap.size w w':=by
 have hz':=Zx (u:=m.uses) o hz;have HC:Hid (∀W,Below w.heap.size w W->Calls Tryz.prog 192 #[vm,v,.string o] W fun e w'=>∃a n cap a2 n2 cap2,e=.returned (.tuple #[.agg #[.slice a n cap,.slice a2 n2 cap2],.bool (qY m.uses l o)])/\qC S w' (zK m.uses l o) (.agg #[.slice a n cap,.slice a2 n2 cap2])/\Below W.heap.size W w'):=fun W hW=>by
  have hS':∀b,S b->b<W.heap.size:=fun b hb=>Nat.lt_of_lt_of_le (hS b hb) hW.size
  refine (Jf S m l o vm v W hS' (hm.keep (Keeps.below hW hS)) (qd (Keeps.below hW hS) hv)).mono ?_;rintro e w' ⟨a,n,cap,a2,n2,cap2,rfl,hf,hb⟩;exact⟨a,n,cap,a2,n2,cap2,rfl,hf.keep (Keeps.below hb hS'),hb⟩
 have HT:Hid (∀W u,w.heap.size<=W.heap.size->qC S W (zK m.uses l o) u->Calls Tryz.prog 296 #[u,.string n] W fun e w'=>e=.returned (.tuple #[.string (ja (zK m.uses l o) n),.int .i64 (vF (zK m.uses l o) n)])/\Below W.heap.size W w'):=fun W u hW hu=>
  zgA S _ n _ W (fun b hb=>Nat.lt_of_lt_of_le (hS b hb) hW) hu hz'
 have HV:Hid (jN m.uses l o n=if (qY m.uses l o&&vF (zK m.uses l o) n==0)=true then ja (zK m.uses l o) n else ⟨#[]⟩):=rfl;have HE:Hid (Qn m.uses l o n=if (qY m.uses l o&&vF (zK m.uses l o) n==0)=true then 0 else 5):=rfl;obtain⟨vu,vt,vf,rfl,hu,ht,hf⟩:=hm;obtain⟨u1,u2,u3,rfl⟩:=hu.slice;obtain⟨t1,t2,t3,rfl⟩:=ht.slice;obtain⟨f1,f2,f3,rfl⟩:=hf.slice;obtain⟨a,k,cap,rfl⟩:=hv.slice;clear hu ht hf hv hz hz';generalize zK m.uses l o=fc at *;generalize qY m.uses l o=ok at *;generalize jN m.uses l o n=iv at *;generalize Qn m.uses l o n=ie at *;generalize ja fc n=tv at *;generalize vF fc n=te at *;have HA:Hid (Below w.heap.size w (w.alloc (.cells #[.slice u1 u2 u3,.slice t1 t2 t3,.slice f1 f2 f3] 41))):=(Below.refl _ _).alloc (Nat.le_refl _) _;go_enter Tryz.func259,Tryz.ntmps259;go_wp2_with fail;refine (HC.out _ HA.out).mono ?_;rintro e w3 ⟨b1,b2,b3,c1,c2,c3,rfl,hfc,hb3⟩;have hb4:Below w3.heap.size w3 (w3.alloc (.cells #[.slice b1 b2 b3,.slice c1 c2 c3] 26)):=(Below.refl _ _).alloc (Nat.le_refl _) _;have hb3':=HA.out.trans (hb3.mono HA.out.size);have hS3:∀b,S b->b<w3.heap.size:=fun b hb=>by have:=hS b hb; have:=hb3'.size; omega
 have HF4:=zd (hfc.keep (Keeps.below hb4 hS3));have HB4:=zd (hb3'.trans (hb4.mono hb3'.size));have p0:(w3.alloc (.cells #[.slice b1 b2 b3,.slice c1 c2 c3] 26)).cell? ⟨w3.heap.size,0,none⟩=some (.slice b1 b2 b3):=by simp[go_sem]
 have p1:(w3.alloc (.cells #[.slice b1 b2 b3,.slice c1 c2 c3] 26)).cell? ⟨w3.heap.size,1,none⟩=some (.slice c1 c2 c3):=by simp[go_sem]
 clear hb3 hb4 hb3' hfc hS3 HC HA
 cases ok with
 |false=>
  have HR1:Hid (iv=⟨#[]⟩):=HV.out.trans (if_neg (by simp));have HR2:Hid (ie=5):=HE.out.trans (if_neg (by simp));clear HV HE HT p0 p1;go_wp2_with fail;go_ret2;exact⟨by rw[HR1.out,HR2.out]; rfl,HB4.out⟩
 |true=>
  have HT2:=zd (HT.out _ _ HB4.out.size HF4.out);clear HT;go_wp2_with fail;refine HT2.out.mono ?_;rintro e w5 ⟨rfl,hb5⟩;have HB5:=zd (HB4.out.trans (hb5.mono HB4.out.size));clear hb5 p0 p1 HT2
  cases ht:(te==0) with
  |true=>
   have HR1:Hid (iv=tv):=HV.out.trans (if_pos (by rw[ht]; rfl));have HR2:Hid (ie=0):=HE.out.trans (if_pos (by rw[ht]; rfl));have ht':(te != 0)=false:=by simpa using ht
   clear HV HE ht;go_wp2_with fail;go_ret2;exact⟨by rw[HR1.out,HR2.out]; rfl,HB5.out⟩
  |false=>
   have HR1:Hid (iv=⟨#[]⟩):=HV.out.trans (if_neg (by rw[ht]; simp));have HR2:Hid (ie=5):=HE.out.trans (if_neg (by rw[ht]; simp));have ht':(te != 0)=true:=by simpa using ht
   clear HV HE ht;go_wp2_with fail;go_ret2;exact⟨by rw[HR1.out,HR2.out]; rfl,HB5.out⟩
abbrev Sol:=ByteArray×Int
def Qv:ByteArray:=⟨#[105,110,116]⟩
def ZB:ByteArray:=⟨#[116,101,120,116]⟩
def kx:ByteArray:=⟨#[42]⟩
def zr:ByteArray:=⟨#[]⟩
def yg (r:Sol):Sol:=if r.2=0 then (if qq r.1=0 then (yH r.1,0) else (zr,5)) else (zr,r.2)
def zo (ρ:ByteArray->ByteArray->Sol):Nat->Ty->Sol
 |0,_=>(zr,5)
 |d+1,.mk k o n xs=>if k=1 then (Qv,0) else if k=2 then (ZB,0) else if k=3 then (match xs with
  |[]=>(zr,5)
  |t::_=>yg (zo ρ d t)) else ρ o n
def Xt (u:List ByteArray) (l:List Im) (o n:ByteArray):Sol:=(jN u l o n,Qn u l o n)
def qt (m:Mo) (l:List Im):Nat->List Nat->ByteArray->ByteArray->Sol
 |0,_,o,n=>if o.toList.isEmpty=true then (if zq m n<m.types.length then (zr,2) else (zr,5)) else Xt m.uses l o n
 |u+1,met,o,n=>if o.toList.isEmpty=true then (match m.types[zq m n]? with
  |some f=>if met.contains (zq m n)=true then (zr,2) else zo (qt m l u (zq m n::met)) 10 f.is
  |none=>(zr,5)) else Xt m.uses l o n
def qD (m:Mo) (l:List Im):Nat->ByteArray->List ByteArray->ByteArray->ByteArray->Sol
 |0,v,_,o,n=>if o.toList.isEmpty=true then (if (!v.toList.isEmpty&&sEq n v)=true then (kx,0) else if zq m n<m.types.length then (zr,2) else (zr,5)) else Xt m.uses l o n
 |u+1,v,under,o,n=>if o.toList.isEmpty=true then (if (!v.toList.isEmpty&&sEq n v)=true then (kx,0) else match m.types[zq m n]? with
  |some f=>if qu under n=true then (zr,2) else zo (qD m l u zr (under++[n])) 10 f.is
  |none=>(zr,5)) else Xt m.uses l o n
theorem Ki {α:Type} {p:α->Bool}:∀{l:List α} (h:zj p l<l.length),p l[zj p l]=true
 |[],h=>by simp[zj] at h
 |x::r,h=>by
  by_cases hp:p x=true
  ·have e:zj p (x::r)=0:=by rw[zj,if_pos hp]
   simp only[e,List.getElem_cons_zero];exact hp
  ·have e:zj p (x::r)=zj p r+1:=by rw[zj,if_neg hp]
   have h':zj p r<r.length:=by rw[e] at h; simpa using h
   simp only[e,List.getElem_cons_succ];exact Ki h'
theorem zbs {m:Mo} {n:ByteArray} (h:zq m n<m.types.length):m.types[zq m n].name=n:=YV (Ki h)
theorem Vq {m:Mo} {n n':ByteArray} (h:zq m n<m.types.length) (e:zq m n=zq m n'):n=n':=by
 have h1:=zbs h;have h':zq m n'<m.types.length:=by rw[<- e]; exact h
 have h2:=zbs h';rw[<- h1,<- h2]
 congr 2
theorem j7 {l:List ByteArray} {s:ByteArray}:qu l s=true↔s∈l:=by
 unfold qu;rw[decide_eq_true_iff]
 constructor
 ·intro h
  have:=Ki h;rw[<- YV this];exact List.getElem_mem h
 ·intro h
  induction l with
  |nil=>cases h
  |cons x r ih=>
   by_cases hx:sEq x s=true
   ·rw[zj,if_pos hx]; simp
   ·rw[zj,if_neg hx]
    rcases List.mem_cons.1 h with rfl|h
    ·exact absurd (kY s) hx
    ·have:=ih h
     simp; exact this
def Z5 (m:Mo) (under:List ByteArray) (met:List Nat):Prop:=∀n,zq m n<m.types.length->(met.contains (zq m n)=qu under n)
theorem Z5.start (m:Mo):Z5 m [] []:=fun n _=>by simp[qu,zj]
theorem Z5.next {m:Mo} {under:List ByteArray} {met:List Nat} (h:Z5 m under met) {n:ByteArray} (hn:zq m n<m.types.length):Z5 m (under++[n]) (zq m n::met):=fun n' h'=>by
 rw[Bool.eq_iff_iff,j7,List.mem_append,List.mem_singleton,<- j7,<- h n' h',List.contains_cons,Bool.or_eq_true,beq_iff_eq]
 constructor
 ·rintro (e|e)
  ·exact Or.inr (Vq h' e)
  ·exact Or.inl e
 ·rintro (e|rfl)
  ·exact Or.inr e
  ·exact Or.inl rfl
theorem QY {ρ ρ':ByteArray->ByteArray->Sol} (h:∀o n,ρ o n=ρ' o n):∀(d:Nat) (t:Ty),zo ρ d t=zo ρ' d t:=by
 have:ρ=ρ':=funext fun o=>funext fun n=>h o n
 intro d t;rw[this]
theorem zbt (m:Mo) (l:List Im):∀(u:Nat) (under:List ByteArray) (met:List Nat),Z5 m under met->∀o n,qt m l u met o n=qD m l u zr under o n
 |0,under,met,_,o,n=>by
  unfold qt qD;rw[if_neg (c:=(!zr.toList.isEmpty&&sEq n zr)=true) (by simp[zr])]
 |u+1,under,met,hm,o,n=>by
  unfold qt qD;rw[if_neg (c:=(!zr.toList.isEmpty&&sEq n zr)=true) (by simp[zr])]
  by_cases ho:o.toList.isEmpty=true
  ·rw[if_pos ho,if_pos ho]
   by_cases hat:zq m n<m.types.length
   ·rw[List.getElem?_eq_getElem hat]
    simp only;rw[hm n hat]
    by_cases hh:qu under n=true
    ·rw[if_pos hh,if_pos hh]
    ·rw[if_neg hh,if_neg hh]
     exact QY (fun o' n'=>zbt m l u _ _ (hm.next hat) o' n') 10 _
   ·rw[List.getElem?_eq_none (by omega)]
  ·rw[if_neg ho,if_neg ho]
def fnd (mB lB tB fB:Nat):Value:=.func (.func 258) #[] #[.pointer (some ⟨mB,0,none⟩),.pointer (some ⟨lB,0,none⟩),.pointer (some ⟨tB,0,none⟩),.pointer (some ⟨fB,0,none⟩)]
structure SEnv (w0:World) (mB lB tB fB aB:Nat) (x y z lv:Value) (n:Nat) (met:List Nat) (W:World):Prop where
 below:Below w0.heap.size w0 W
 m0:W.cell? ⟨mB,0,none⟩=some x
 m1:W.cell? ⟨mB,1,none⟩=some y
 m2:W.cell? ⟨mB,2,none⟩=some z
 lc:W.cell? ⟨lB,0,none⟩=some lv
 tc:W.cell? ⟨tB,0,none⟩=some (.slice (some ⟨aB,0,none⟩) n n)
 fc:W.cell? ⟨fB,0,none⟩=some (fnd mB lB tB fB)
 arr:∀i,i<n->W.cell? ⟨aB,i,none⟩=some (.bool (met.contains i))/\W.frozen? ⟨aB,i,none⟩=false
 low:w0.heap.size<=aB
 ne:aB≠mB/\aB≠lB/\aB≠tB/\aB≠fB
theorem SEnv.keep {w0:World} {mB lB tB fB aB:Nat} {x y z lv:Value} {n:Nat} {met:List Nat} {W W':World} (h:SEnv w0 mB lB tB fB aB x y z lv n met W) (hb:Below W.heap.size W W'):SEnv w0 mB lB tB fB aB x y z lv n met W':=by
 have hk:∀(a:Addr) (v:Value),W.cell? a=some v->W'.cell? a=some v:=fun a v hv=>(hb.cell (World.block_lt_of_cell? _ _ hv)).trans hv
 refine⟨h.below.trans (hb.mono h.below.size),hk _ _ h.m0,hk _ _ h.m1,hk _ _ h.m2,hk _ _ h.lc,hk _ _ h.tc,hk _ _ h.fc,fun i hi=>?_,h.low,h.ne⟩;obtain⟨h1,h2⟩:=h.arr i hi;exact⟨hk _ _ h1,(hb.frozen (World.block_lt_of_cell? _ _ h1)).trans h2⟩
theorem SEnv.meet {w0:World} {mB lB tB fB aB:Nat} {x y z lv:Value} {n:Nat} {met:List Nat} {W:World} (h:SEnv w0 mB lB tB fB aB x y z lv n met W) {k:Nat} (hk:k<n):SEnv w0 mB lB tB fB aB x y z lv n (k::met) (W.setCell ⟨aB,k,none⟩ (.bool true)):=by
 obtain⟨n1,n2,n3,n4⟩:=h.ne;refine⟨h.below.setCell h.low _,?_,?_,?_,?_,?_,?_,fun i hi=>⟨?_,?_⟩,h.low,h.ne⟩
 ·rw[World.cell?_setCell_far _ _ _ _ n1]; exact h.m0
 ·rw[World.cell?_setCell_far _ _ _ _ n1]; exact h.m1
 ·rw[World.cell?_setCell_far _ _ _ _ n1]; exact h.m2
 ·rw[World.cell?_setCell_far _ _ _ _ n2]; exact h.lc
 ·rw[World.cell?_setCell_far _ _ _ _ n3]; exact h.tc
 ·rw[World.cell?_setCell_far _ _ _ _ n4]; exact h.fc
 ·obtain⟨h1,h2⟩:=h.arr i hi
  obtain⟨h3,_⟩:=h.arr k hk
  by_cases hik:i=k
  ·subst hik
   rw[World.cell?_setCell_same (h:=h3)];simp
  ·rw[World.cell?_setCell_other (h:=by intro e; injection e with _ e; exact hik e.symm),h1]
   simp[hik]
 ·obtain⟨_,h2⟩:=h.arr i hi
  rw[World.frozen?_setCell]; exact h2
def xS (w0:World) (r:Sol) (e:Ending) (w':World):Prop:=e=.returned (.tuple #[.string r.1,.int .i64 r.2])/\Below w0.heap.size w0 w'
theorem kO {ρ:ByteArray->ByteArray->Sol} (h:∀o n,(ρ o n).1.size<=maxLen):∀(d:Nat) (t:Ty),(zo ρ d t).1.size<=maxLen
 |0,_=>Nat.zero_le _
 |d+1,.mk k o n xs=>by
  unfold zo
  split
  ·decide
  ·split
   ·decide
   ·split
    ·cases xs with
     |nil=>exact Nat.zero_le _
     |cons t r=>
      show (yg (zo ρ d t)).1.size<=_;unfold yg
      split
      ·split
       ·rename_i hl
        obtain⟨_,h5⟩:=QE hl;have:(yH (zo ρ d t).1).size=(zo ρ d t).1.size+2:=by
         simp[yH];show 1+_+1=_;omega
        show (yH (zo ρ d t).1).size<=_;rw[this]; unfold maxLen; omega
       ·exact Nat.zero_le _
      ·exact Nat.zero_le _
    ·exact h o n
theorem QZ {k:Int} {o n:ByteArray} {xs:List Ty} {dd:Nat} (h:zl (.mk k o n xs) dd=0):dd<=10/\(1<=k/\k<=4)/\(k=3->∃t,xs=[t]/\zl t (dd+1)=0)/\(k=4->zf n=true):=by
 rw[zl] at h
 by_cases h1:10<dd
 ·rw[if_pos h1] at h; exact absurd h (by decide)
 ·rw[if_neg h1] at h
  by_cases h2:qj k 1 4=false
  ·rw[if_pos h2] at h; exact absurd h (by decide)
  ·rw[if_neg h2] at h
   by_cases h3:jc k o n xs.length=false
   ·rw[if_pos h3] at h; exact absurd h (by decide)
   ·rw[if_neg h3] at h
    have hk:1<=k/\k<=4:=by simpa [qj] using h2
    refine⟨by omega,hk,fun e=>?_,fun e=>?_⟩
    ·subst e
     simp[jc] at h3;obtain⟨t,rfl⟩:=List.length_eq_one_iff.1 h3.1;refine⟨t,rfl,?_⟩;rw[jm] at h
     by_cases h4:zl t (dd+1)=0
     ·exact h4
     ·rw[if_neg h4] at h; exact h
    ·subst e
     simp[jc] at h3;exact h3.2.1
theorem zcd (w0:World) (S:Nat->Prop) (hS:∀b,S b->b<w0.heap.size) (ρ:ByteArray->ByteArray->Sol) (hρ:∀o n,(ρ o n).1.size<=maxLen) (Env:World->Prop) (hE0:∀W,Env W->Below w0.heap.size w0 W) (hEk:∀W W',Env W->Below W.heap.size W W'->Env W') (mB lB tB fB:Nat) (d:Nat) (HRec:Hid (∀(t:Ty) (dd:Nat) (v:Value) (W:World),zl t dd=0->11<=dd+d->Env W->vi S W t v->Calls Tryz.prog 180 #[v,.func (.func 258) #[] #[.pointer (some ⟨mB,0,none⟩),.pointer (some ⟨lB,0,none⟩),.pointer (some ⟨tB,0,none⟩),.pointer (some ⟨fB,0,none⟩)]] W (xS w0 (zo ρ d t)))) (t:Ty) (dd:Nat) (o n:ByteArray) (v:Value) (W:World) (ht:zl t (dd+1)=0) (hd:11<=dd+1+d) (hW:Env W) (hv:vi S W (.mk 3 o n [t]) v) :
  Calls Tryz.prog 260 #[v,.func (.func 258) #[] #[.pointer (some ⟨mB,0,none⟩),.pointer (some ⟨lB,0,none⟩),.pointer (some ⟨tB,0,none⟩),.pointer (some ⟨fB,0,none⟩)]] W (xS w0 (yg (zo ρ d t))):=by
 obtain⟨k,f,x,va,rfl,xs,e,_,_,hsl⟩:=hv;injection e with e1 e2 e3 e4
 subst e1 e2 e3 e4;obtain⟨a,cap,rfl⟩:=hsl.is;obtain⟨_,b,off,rfl,hb,hat⟩:=hsl.at (k:=0) (by simp);simp only[List.getElem_cons_zero,Nat.zero_mul,Nat.add_zero] at hat;obtain⟨k1,f1,x1,va1,q0,q1,q2,q3,hcs1⟩:=qL.1 hat;obtain⟨a1,m1,c1,rfl⟩:∃a1 m1 c1,va1=.slice a1 m1 c1:=by
  obtain⟨_,_,_,_,hs⟩:=hcs1;exact ze.slice hs
 have hSW:∀b,S b->b<W.heap.size:=fun b hb=>Nat.lt_of_lt_of_le (hS b hb) (hE0 W hW).size
 have hbW:=hSW b hb;obtain⟨w2,rfl,p3,hbel⟩:∃w2,w2=W.alloc (.cells #[.int .i64 3,.string o,.string n,.slice (some ⟨b,off,none⟩) 1 cap] 67)/\w2.cell? ⟨W.heap.size,3,none⟩=some (.slice (some ⟨b,off,none⟩) 1 cap)/\Below W.heap.size W w2:=
  ⟨_,rfl,by simp[go_sem],(Below.refl _ _).alloc (Nat.le_refl _) _⟩
 have d0:=(hbel.cell (p:=⟨b,off,none⟩) hbW).trans q0;have d1:=(hbel.cell (p:=⟨b,off+1,none⟩) hbW).trans q1;have d2:=(hbel.cell (p:=⟨b,off+2,none⟩) hbW).trans q2;have d3:=(hbel.cell (p:=⟨b,off+3,none⟩) hbW).trans q3;have HR:=zd (HRec.out t (dd+1) (.agg #[.int .i64 k1,.string f1,.string x1,.slice a1 m1 c1]) _ ht hd (hEk _ _ hW hbel) ⟨_,_,_,_,rfl,hcs1.keep (Keeps.below hbel hSW)⟩);have HZ:=zd (kO hρ d t);have HL:Hid (yg (zo ρ d t)=if (zo ρ d t).2=0 then (if qq (zo ρ d t).1=0 then (yH (zo ρ d t).1,0) else (zr,5)) else (zr,(zo ρ d t).2)):=rfl;clear hat hcs1 hsl hbel HRec hρ hW hSW q0 q1 q2 q3 ht hd;generalize yg (zo ρ d t)=r at *;generalize zo ρ d t=sp at *;obtain⟨ss,sc⟩:=sp;obtain⟨rs,rc⟩:=r;simp only at HL HZ;go_enter Tryz.func260,Tryz.ntmps260;go_wp2_with fail;refine HR.out.mono ?_;rintro e w3 ⟨rfl,hb3⟩;have HB3:=zd hb3;clear hb3 HR d0 d1 d2 d3 p3
 by_cases hc:sc=0
 ·rw[if_pos hc] at HL
  subst hc
  by_cases hl:qq ss=0
  ·rw[if_pos hl] at HL
   have HR1:Hid (rs=yH ss):=(Prod.mk.inj HL.out).1;have HR2:Hid (rc=0):=(Prod.mk.inj HL.out).2;have HLo:=zd (fun W=>Xq hl W);clear hl HL;go_wp2_with fail;refine (HLo.out _).mono ?_;rintro e w4 ⟨rfl,rfl⟩;go_wp2_with fail;go_ret2;exact⟨by rw[HR1.out,HR2.out]; rfl,HB3.out⟩
  ·rw[if_neg hl] at HL
   have HR1:Hid (rs=zr):=(Prod.mk.inj HL.out).1;have HR2:Hid (rc=5):=(Prod.mk.inj HL.out).2;have HLo:=zd (fun W=>X3 HZ.out hl W);have hl':(qq ss != 0)=true:=by simpa using hl
   clear hl HL;generalize qq ss=le at *;go_wp2_with fail;refine (HLo.out _).mono ?_;rintro e w4 ⟨rfl,rfl⟩;go_wp2_with fail;go_ret2;exact⟨by rw[HR1.out,HR2.out]; rfl,HB3.out⟩
 ·rw[if_neg hc] at HL
  have HR1:Hid (rs=zr):=(Prod.mk.inj HL.out).1;have HR2:Hid (rc=sc):=(Prod.mk.inj HL.out).2;have hc':(sc != 0)=true:=by simpa using hc
  clear hc HL;go_wp2_with fail;go_ret2;exact⟨by rw[HR1.out,HR2.out]; rfl,HB3.out⟩
theorem zhy (w0:World) (S:Nat->Prop) (hS:∀b,S b->b<w0.heap.size) (ρ:ByteArray->ByteArray->Sol) (hρ:∀o n,(ρ o n).1.size<=maxLen) (Env:World->Prop) (hE0:∀W,Env W->Below w0.heap.size w0 W) (hEk:∀W W',Env W->Below W.heap.size W W'->Env W') (mB lB tB fB:Nat) (HF:∀o n W,Env W->Calls Tryz.prog 258 #[.string o,.string n,.pointer (some ⟨mB,0,none⟩),.pointer (some ⟨lB,0,none⟩),.pointer (some ⟨tB,0,none⟩),.pointer (some ⟨fB,0,none⟩)] W (xS w0 (ρ o n))):∀(d:Nat) (t:Ty) (dd:Nat) (v:Value) (W:World),zl t dd=0->11<=dd+d->Env W->vi S W t v->Calls Tryz.prog 180 #[v,.func (.func 258) #[] #[.pointer (some ⟨mB,0,none⟩),.pointer (some ⟨lB,0,none⟩),.pointer (some ⟨tB,0,none⟩),.pointer (some ⟨fB,0,none⟩)]] W (xS w0 (zo ρ d t)):=by
 intro d
 induction d with
 |zero=>
  intro t dd v W ht hd;obtain⟨k,o,n,xs⟩:=t;have:=(QZ ht).1;omega
 |succ d ih=>
  intro t dd v W ht hd hW hv;obtain⟨k,o,n,xs⟩:=t;obtain⟨_,⟨hk1,hk4⟩,h3,_⟩:=QZ ht;have HRec:Hid (∀(t:Ty) (dd:Nat) (v:Value) (W:World),zl t dd=0->11<=dd+d->Env W->vi S W t v->Calls Tryz.prog 180 #[v,.func (.func 258) #[] #[.pointer (some ⟨mB,0,none⟩),.pointer (some ⟨lB,0,none⟩),.pointer (some ⟨tB,0,none⟩),.pointer (some ⟨fB,0,none⟩)]] W (xS w0 (zo ρ d t))):=ih;have HP:Hid (zo ρ (d+1) (.mk k o n xs)=if k=1 then (Qv,0) else if k=2 then (ZB,0) else if k=3 then (match xs with
   |[]=>(zr,5)
   |t::_=>yg (zo ρ d t)) else ρ o n):=rfl
  have hv0:=hv;obtain⟨k',f',x',va,rfl,xs',e,_,_,hsl⟩:=hv;injection e with e1 e2 e3 e4
  subst e1 e2 e3 e4;obtain⟨a,m,cap,rfl⟩:=hsl.slice;have hbel:Below W.heap.size W (W.alloc (.cells #[.int .i64 k,.string o,.string n,.slice a m cap] 67)):=(Below.refl _ _).alloc (Nat.le_refl _) _;have HBel:=zd hbel;have hSW:∀b,S b->b<W.heap.size:=fun b hb=>Nat.lt_of_lt_of_le (hS b hb) (hE0 W hW).size
  have HEnd:=zd ((hE0 W hW).trans (hbel.mono (hE0 W hW).size));have hk:k=1\/k=2\/k=3\/k=4:=by omega
  rcases hk with rfl|rfl|rfl|rfl
  ·have HR:Hid (zo ρ (d+1) (.mk 1 o n xs)=(Qv,0)):=HP.out
   clear HP HRec ih h3 hv0 hsl hW hSW hρ HF;generalize zo ρ (d+1) (.mk 1 o n xs)=r at *;go_enter Tryz.func180,Tryz.ntmps180;go_wp2_with fail;go_ret2;exact⟨by rw[HR.out]; rfl,HEnd.out⟩
  ·have HR:Hid (zo ρ (d+1) (.mk 2 o n xs)=(ZB,0)):=HP.out
   clear HP HRec ih h3 hv0 hsl hW hSW hρ HF;generalize zo ρ (d+1) (.mk 2 o n xs)=r at *;go_enter Tryz.func180,Tryz.ntmps180;go_wp2_with fail;go_ret2;exact⟨by rw[HR.out]; rfl,HEnd.out⟩
  ·obtain⟨t,rfl,ht1⟩:=h3 rfl
   have HR:Hid (zo ρ (d+1) (.mk 3 o n [t])=yg (zo ρ d t)):=HP.out;have HS:=zd (zcd w0 S hS ρ hρ Env hE0 hEk mB lB tB fB d HRec t dd o n _ _ ht1 (by omega) (hEk _ _ hW hbel) (hv0.keep (Keeps.below hbel hSW)));clear HP HRec ih h3 hv0 hsl hW hSW hρ HF;generalize zo ρ (d+1) (.mk 3 o n [t])=r at *;generalize yg (zo ρ d t)=r' at *;go_enter Tryz.func180,Tryz.ntmps180;go_wp2_with fail;refine HS.out.mono ?_;rintro e w3 ⟨rfl,hb3⟩;have HB3:=zd hb3;clear hb3;go_wp2_with fail;go_ret2;exact⟨by rw[HR.out]; rfl,HB3.out⟩
  ·have HR:Hid (zo ρ (d+1) (.mk 4 o n xs)=ρ o n):=HP.out
   have HS:=zd (HF o n _ (hEk _ _ hW hbel));clear HP HRec ih h3 hv0 hsl hW hSW hρ HF;generalize zo ρ (d+1) (.mk 4 o n xs)=r at *;generalize ρ o n=r' at *;go_enter Tryz.func180,Tryz.ntmps180;go_wp2_with fail;refine HS.out.mono ?_;rintro e w3 ⟨rfl,hb3⟩;have HB3:=zd hb3;clear hb3;go_wp2_with fail;go_ret2;exact⟨by rw[HR.out]; rfl,HB3.out⟩
end Go.Proofs.YtedpiamfpbdhoaaGreatDoor
