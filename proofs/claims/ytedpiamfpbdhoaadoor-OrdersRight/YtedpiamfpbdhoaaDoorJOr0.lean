import Derived.Test.YtedpiamfpbdhoaaDoorProg
import GoSem.PinnedTables
import GoSem.Claim
import GoSem.ClaimJoined
import GoSem.ClaimMapViews
import Derived.JoinedTies
import Derived.KernelRfl
import Derived.RowKit
import Derived.WalkKit
import Derived.WalkLawsBesides
import Derived.Shelf.Abstract
import Derived.Lib.Bytealg
import Derived.Deep.Slices
import Derived.SizedLaws
import Derived.ProofKit
import Derived.Deep.RegionWith
import Derived.WalkSpells
import Derived.Shelf.Small.Bits
import Derived.Shelf.Small.Strs
import Derived.Shelf.Strconv.Itoa0
import Derived.Shelf.LaysM
import Derived.Shelf.Strconv.Clone
import Derived.Shelf.Sort.Plain
import Derived.Shelf.Slices.Turned
import Derived.Shelf.Slices.CompactS
import Derived.Shelf.Slices.Cells
import Derived.Shelf.Slices.In.SortNone
import Derived.Lib.IndexLaws
import Derived.BigQuiet
import Derived.Deep.QuietTactic
import Derived.Deep.RegionHeld3
import Derived.Laws.IdiomCopy
import Derived.Laws.Rows
import Derived.Laws.MakeOwn
import Derived.OwnWalk
import Derived.Deep.Upon
import Derived.Laws.EntriesVeiled
import Derived.Deep.AppendLies
namespace Go.Proofs.YtedpiamfpbdhoaaDoor
open Go.RowKit
theorem veil {p:Prop} (h:p):Hid p:=h
def isLetter (b:Int):Bool:=decide (97≤b)&&decide (b≤122)
def isDigit (b:Int):Bool:=decide (48≤b)&&decide (b≤57)
def isWordB (b:Int):Bool:=isLetter b||isDigit b
def isIn (n lo hi:Int):Bool:=decide (lo≤n)&&decide (n≤hi)
theorem letter_any (b:Int) (w:World):Calls Tryd.prog 71 #[.int .u8 b] w fun e w'=>e=.returned (.bool (isLetter b))∧w=w':=by
 by_cases h1:97≤b <;> by_cases h2:b≤122
 all_goals
  go_enter Tryd.func71,Tryd.ntmps71
  go_wp2
  all_goals first|(exfalso; omega)|(go_ret; exact⟨by simp[isLetter,h1,h2],rfl⟩)
theorem digit_any (b:Int) (w:World):Calls Tryd.prog 75 #[.int .u8 b] w fun e w'=>e=.returned (.bool (isDigit b))∧w=w':=by
 by_cases h1:48≤b <;> by_cases h2:b≤57
 all_goals
  go_enter Tryd.func75,Tryd.ntmps75
  go_wp2
  all_goals first|(exfalso; omega)|(go_ret; exact⟨by simp[isDigit,h1,h2],rfl⟩)
theorem wordByte_any (b:Int) (w:World):Calls Tryd.prog 73 #[.int .u8 b] w fun e w'=>e=.returned (.bool (isWordB b))∧w=w':=by
 by_cases h1:isLetter b=true
 ·go_enter Tryd.func73,Tryd.ntmps73
  go_wp2_with (go_at_call 71; refine (letter_any _ _).mono ?_; rintro e w' ⟨rfl,rfl⟩)
  go_ret
  exact⟨by simp[isWordB,h1],rfl⟩
 ·have h1':isLetter b=false:=by simpa using h1
  go_enter Tryd.func73,Tryd.ntmps73
  go_wp2_with (first|(go_at_call 71; refine (letter_any _ _).mono ?_; rintro e w' ⟨rfl,rfl⟩)|(go_at_call 75; refine (digit_any _ _).mono ?_; rintro e w' ⟨rfl,rfl⟩))
  go_ret
  exact⟨by simp[isWordB,h1'],rfl⟩
end Go.Proofs.YtedpiamfpbdhoaaDoor
namespace Go.Proofs.YtedpiamfpbdhoaaDoor
open Go.RowKit
def Steps (g:Nat) (lb:Array Value) (s:ByteArray) (p:Nat→Bool) (St:Nat→World→Prop) (a:Nat):Prop:=
 ∀(k:Nat) (h:k<s.size) (W:World),a≤k→(∀j,a≤j→j<k→p j=true)→St k W→Calls Tryd.prog g (#[.int .u8 ((s[k]'h).toNat:Int)]++lb) W fun e w'=>e=.returned (.bool (p k))∧St (k+1) w'
def RunTo (p:Nat→Bool) (n a k:Nat):Prop:=a≤k∧k≤n∧(∀j,a≤j→j<k→p j=true)∧(k<n→p k=false)
set_option maxHeartbeats 1000000 in
theorem run_any (g:Nat) (lb:Array Value) (eg:∀args w,(callFunc g args).run Tryd.prog w=.ok (.enter g args) w) (s:ByteArray) (hs:s.size≤maxLen) (p:Nat→Bool) (St:Nat→World→Prop)
  (B:Nat) (hSt:∀k W,St k W→W.cell? ⟨B,0,none⟩=some (.string s)) (a:Int) (hp:Steps g lb s p St a.toNat) (h0:0≤a) (h1:a≤s.size) (w:World) (hw:St a.toNat w) :
  Calls Tryd.prog 76 #[.int .i64 a,.func (.func g) #[] lb,.pointer (some ⟨B,0,none⟩)] w fun e w'=>∃k:Nat,e=.returned (.int .i64 k)∧RunTo p s.size a.toNat k∧∃j,St j w':=by
 unfold maxLen at hs
 obtain⟨a,rfl⟩:=Int.eq_ofNat_of_zero_le h0
 rw[Int.toNat_natCast] at hw hp ⊢
 have HP:Hid (Steps g lb s p St a):=hp
 clear hp
 go_enter Tryd.func76,Tryd.ntmps76
 go_wp2
 go_loopw [6] (fun i wr=>∃k:Nat,a≤k∧k≤s.size∧i=.int .i64 k∧(∀j,a≤j→j<k→p j=true)∧St k wr) (fun i _=>s.size - (intOf i).toNat)
 case atStart=>exact⟨a,Nat.le_refl _,by omega,rfl,fun j h1 h2=>absurd h2 (by omega),hw⟩
 case round=>
  obtain⟨k,hk0,hk,rfl,hall,hst⟩:=hrel
  have hc:=hSt k wr hst
  clear hSt
  by_cases hlt:k<s.size
  ·have cS:=HP.out k hlt wr hk0 hall hst
   clear HP
   cases hpk:p k
   ·rw[hpk] at cS
    have HA:Hid (∀j,a≤j→j<k→p j=true):=hall
    have HPK:Hid (p k=false):=hpk
    clear hall hpk
    go_wp2_with (go_at_fn g; refine cS.mono ?_; rintro e w' ⟨rfl,hst'⟩)
    go_ret
    exact⟨k,rfl,⟨hk0,hk,HA.out,fun _=>HPK.out⟩,k+1,hst'⟩
   ·rw[hpk] at cS
    have HA:Hid (∀j,a≤j→j<k→p j=true):=hall
    have HPK:Hid (p k=true):=hpk
    clear hall hpk
    go_wp2_with (go_at_fn g; refine cS.mono ?_; rintro e w' ⟨rfl,hst'⟩)
    go_roundw
    case rel=>exact⟨k+1,by omega,by omega,by go_num,fun j h1 h2=>by
     by_cases e:j=k
     ·rw[e]; exact HPK.out
     ·exact HA.out j h1 (by omega),hst'⟩
    case measure=>simp[intOf]; omega
  ·have HA:Hid (∀j,a≤j→j<k→p j=true):=hall
   clear hall HP
   go_wp2
   go_ret
   exact⟨k,rfl,⟨hk0,hk,HA.out,fun h=>absurd h hlt⟩,k,hst⟩
theorem runOf_any (s:ByteArray) (w:World) :
  Calls Tryd.prog 74 #[.string s] w fun e w'=>e=.returned (.func (.func 76) #[] #[.pointer (some ⟨w.heap.size,0,none⟩)])∧w.alloc (.cells #[.string s] 9)=w':=by
 have hmf:∀(fn:Fn) (first cap:Array Value) (w:World),(Instr.makeFunc fn first cap).run Tryd.prog w=.ok (.func fn first cap) w:=fun _ _ _ _=>rfl
 go_enter Tryd.func74,Tryd.ntmps74
 go_wp2
 go_ret
 exact⟨rfl,rfl⟩
end Go.Proofs.YtedpiamfpbdhoaaDoor
namespace Go.Proofs.YtedpiamfpbdhoaaDoor
open Go.RowKit
def allB (p:Nat→Bool) (n:Nat):Bool:=(List.range n).all p
theorem allB_iff (p:Nat→Bool) (n:Nat):allB p n=true↔∀j,j<n→p j=true:=by
 simp[allB,List.all_eq_true,List.mem_range]
theorem runTo_all {p:Nat→Bool} {n k:Nat} (h:RunTo p n 0 k):((k:Int)==(n:Int))=allB p n:=by
 obtain⟨_,h2,h3,h4⟩:=h
 rw[Bool.eq_iff_iff,allB_iff,beq_iff_eq]
 constructor
 ·intro e j hj
  exact h3 j (Nat.zero_le _) (by omega)
 ·intro e
  by_cases hk:k<n
  ·have:=h4 hk
   rw[e k hk] at this
   cases this
  ·omega
def byteAt (s:ByteArray) (j:Nat):Int:=((s.data.toList.getD j 0).toNat:Int)
theorem byteAt_get (s:ByteArray) (k:Nat) (h:k<s.size):((s[k]'h).toNat:Int)=byteAt s k:=by
 unfold byteAt
 have h':k<s.data.toList.length:=by simpa using h
 rw[List.getD_eq_getElem?_getD,List.getElem?_eq_getElem h']
 rfl
set_option maxHeartbeats 400000 in
theorem every_any (g:Nat) (lb:Array Value) (eg:∀args w,(callFunc g args).run Tryd.prog w=.ok (.enter g args) w) (s:ByteArray) (hs:s.size≤maxLen) (p:Nat→Bool) (St:Nat→World→Prop)
  (w:World) (hp:Steps g lb s p St 0) (hSt:∀k W,St k W→W.cell? ⟨w.heap.size,0,none⟩=some (.string s)) (hw:St 0 (w.alloc (.cells #[.string s] 9))) :
  Calls Tryd.prog 72 #[.string s,.func (.func g) #[] lb] w fun e w'=>e=.returned (.bool (allB p s.size))∧∃j,St j w':=by
 have hr:=run_any g lb eg s hs p St w.heap.size hSt 0 hp (by omega) (by omega) _ hw
 clear hp hSt
 unfold maxLen at hs
 go_enter Tryd.func72,Tryd.ntmps72
 go_wp2_with (go_at_call 74; refine (runOf_any _ _).mono ?_; rintro e w' ⟨rfl,rfl⟩)
 refine hr.mono ?_
 rintro e w' ⟨k,rfl,hk,hj⟩
 have hk':=runTo_all hk
 clear hr eg
 have HK:Hid (((k:Int)==(s.size:Int))=allB p s.size):=hk'
 clear hk' hk
 go_wp2
 go_ret
 exact⟨by rw[HK.out]; rfl,hj⟩
theorem every_pure (g:Nat) (eg:∀args w,(callFunc g args).run Tryd.prog w=.ok (.enter g args) w) (q:Int→Bool) (hq:∀(b:Int) (w:World),Calls Tryd.prog g #[.int .u8 b] w fun e w'=>e=.returned (.bool (q b))∧w=w')
  (s:ByteArray) (hs:s.size≤maxLen) (w:World) :
  Calls Tryd.prog 72 #[.string s,.func (.func g) #[] #[]] w fun e w'=>e=.returned (.bool (allB (fun j=>q (byteAt s j)) s.size))∧w.alloc (.cells #[.string s] 9)=w':=by
 refine (every_any g #[] eg s hs (fun j=>q (byteAt s j)) (fun _ W=>w.alloc (.cells #[.string s] 9)=W) w ?_ ?_ rfl).mono ?_
 ·rintro k hk W _ _ rfl
  refine (hq _ _).mono ?_
  rintro e w' ⟨rfl,rfl⟩
  exact⟨by rw[byteAt_get],rfl⟩
 ·rintro k W rfl
  rw[World.cell?_alloc_at _ _ _ _ rfl]; rfl
 ·rintro e w' ⟨rfl,_,h⟩
  exact⟨rfl,h⟩
end Go.Proofs.YtedpiamfpbdhoaaDoor
namespace Go.Proofs.YtedpiamfpbdhoaaDoor
open Go.RowKit
def wordOk (s:ByteArray):Bool:=isIn s.size 1 8&&(isLetter (byteAt s 0)&&allB (fun j=>isWordB (byteAt s j)) s.size)
theorem word_long (s:ByteArray) (h:¬(1≤s.size∧s.size≤8)):wordOk s=false:=by
 have:isIn (s.size:Int) 1 8=false:=by simp[isIn]; omega
 simp[wordOk,this]
set_option maxHeartbeats 400000 in
theorem word_any (s:ByteArray) (hs:s.size≤maxLen) (w:World):Calls Tryd.prog 69 #[.string s] w fun e w'=>e=.returned (.bool (wordOk s))∧Below w.heap.size w w':=by
 have hmax:=hs
 unfold maxLen at hs
 by_cases h0:s.size=0
 ·have hz:(((s.size:Nat):Int)==0)=true:=by simp[h0]
  have hf:=word_long s (by omega)
  have HF:Hid (wordOk s=false):=hf
  clear hf h0
  go_enter Tryd.func69,Tryd.ntmps69
  go_wp2
  go_ret
  exact⟨by rw[HF.out]; rfl,Below.refl _ _⟩
 ·have hz:(((s.size:Nat):Int)==0)=false:=by simp[h0]
  by_cases h8:8<s.size
  ·have hf:=word_long s (by omega)
   have HF:Hid (wordOk s=false):=hf
   have h8':(8:Int)<(s.size:Int):=by omega
   clear hf h0
   go_enter Tryd.func69,Tryd.ntmps69
   go_wp2
   go_ret
   exact⟨by rw[HF.out]; rfl,Below.refl _ _⟩
  ·have h8':¬(8:Int)<(s.size:Int):=by omega
   have hpos:0<s.size:=by omega
   have hin:isIn (s.size:Int) 1 8=true:=by simp[isIn]; omega
   have hb0:=byteAt_get s 0 hpos
   have HB:Hid (((s[0]'hpos).toNat:Int)=byteAt s 0):=hb0
   have HW:Hid (wordOk s=(isLetter (byteAt s 0)&&allB (fun j=>isWordB (byteAt s j)) s.size)):=by show _=_; simp only[wordOk,hin,Bool.true_and]
   clear hb0 hin h0 h8
   cases hl:isLetter ((s[0]'hpos).toNat:Int)
   ·have HL:Hid (isLetter ((s[0]'hpos).toNat:Int)=false):=hl
    go_enter Tryd.func69,Tryd.ntmps69
    go_wp2_with (go_at_call 71; refine (letter_any _ _).mono ?_; rintro e w' ⟨rfl,rfl⟩)
    go_ret
    exact⟨by rw[HW.out,← HB.out,HL.out]; rfl,Below.refl _ _⟩
   ·have HL:Hid (isLetter ((s[0]'hpos).toNat:Int)=true):=hl
    go_enter Tryd.func69,Tryd.ntmps69
    go_wp2_with (first
     |(go_at_call 71; refine (letter_any _ _).mono ?_; rintro e w' ⟨rfl,rfl⟩)
     |(go_at_call 72; refine (every_pure 73 (enters_of Tryd.func73 (by kernel_rfl) rfl) isWordB wordByte_any s hmax _).mono ?_; rintro e w' ⟨rfl,rfl⟩))
    go_ret
    exact⟨by rw[HW.out,← HB.out,HL.out]; rfl,(Below.refl _ _).alloc (Nat.le_refl _) _⟩
end Go.Proofs.YtedpiamfpbdhoaaDoor
namespace Go.Proofs.YtedpiamfpbdhoaaDoor
open Go.RowKit
end Go.Proofs.YtedpiamfpbdhoaaDoor
namespace Go.Proofs.YtedpiamfpbdhoaaDoor
open Go.RowKit
inductive Ty where
 |mk (kind:Int) (of name:ByteArray) (args:List Ty)
inductive Ex where
 |mk (kind n:Int) (of s:ByteArray) (args:List Ex)
structure Fd where
 name:ByteArray
 is:Ty
structure Fu where
 name:ByteArray
 var:ByteArray
 params:List Fd
 result:Ty
 body:Ex
structure Mo where
 uses:List ByteArray
 types:List Fd
 funcs:List Fu
def kwB (s:ByteArray):Bool:=s.data.toList==[117,115,101]||(s.data.toList==[116,121,112,101]||(s.data.toList==[102,117,110,99]||(s.data.toList==[105,110,116]||s.data.toList==[116,101,120,116])))
def identOk (s:ByteArray):Bool:=wordOk s&&!kwB s
def RowAt {α:Type} (P:α→Nat→Nat→Prop) (c:Nat):List α→Nat→Nat→Prop
 |[],_,_=>True
 |t::r,b,o=>P t b o∧RowAt P c r b (o+c)
theorem RowAt.get {α:Type} {P:α→Nat→Nat→Prop} {c:Nat}:∀{l:List α} {b o:Nat},RowAt P c l b o→∀i (hi:i<l.length),P l[i] b (o+i * c)
 |[],b,o,_,i,hi=>absurd hi (by simp)
 |t::r,b,o,h,0,_=>by simpa using h.1
 |t::r,b,o,h,i+1,hi=>by
  have:=RowAt.get h.2 i (by simpa using hi)
  have e:o+(i+1) * c=o+c+i * c:=by rw[Nat.add_mul]; omega
  rw[e]
  simpa using this
theorem RowAt.mk {α:Type} {P:α→Nat→Nat→Prop} {c:Nat}:∀{l:List α} {b o:Nat},(∀i (hi:i<l.length),P l[i] b (o+i * c))→RowAt P c l b o
 |[],b,o,_=>trivial
 |t::r,b,o,h=>⟨by have:=h 0 (Nat.zero_lt_succ _); rw[Nat.zero_mul,Nat.add_zero] at this; exact this,RowAt.mk fun i hi=>by
  have:=h (i+1) (Nat.succ_lt_succ hi)
  have e:o+(i+1) * c=o+c+i * c:=by rw[Nat.add_mul]; omega
  rw[e] at this
  exact this⟩
theorem RowAt.imp {α:Type} {P Q:α→Nat→Nat→Prop} {c:Nat} {l:List α} {b o:Nat} (h:RowAt P c l b o) (hpq:∀i (hi:i<l.length) o',P l[i] b o'→Q l[i] b o'):RowAt Q c l b o:=
 RowAt.mk fun i hi=>hpq i hi _ (h.get i hi)
def SlAt {α:Type} (S:Nat→Prop) (P:α→Nat→Nat→Prop) (c:Nat) (l:List α) (v:Value):Prop:=
 ∃a cap,v=.slice a l.length cap∧(l.length≤maxLen∧l.length≤cap)∧(l.length=0∨∃b o,a=some ⟨b,o,none⟩∧S b∧RowAt P c l b o)
mutual
def TyAt (S:Nat→Prop) (w:World):Ty→Nat→Nat→Prop
 |.mk k f n xs,b,o=>w.cell? ⟨b,o,none⟩=some (.int .i64 k)∧w.cell? ⟨b,o+1,none⟩=some (.string f)∧w.cell? ⟨b,o+2,none⟩=some (.string n)∧f.size≤maxLen∧n.size≤maxLen∧
   ∃v,w.cell? ⟨b,o+3,none⟩=some v∧∃a cap,v=.slice a xs.length cap∧(xs.length≤maxLen∧xs.length≤cap)∧(xs.length=0∨∃b' o',a=some ⟨b',o',none⟩∧S b'∧TysAt S w xs b' o')
def TysAt (S:Nat→Prop) (w:World):List Ty→Nat→Nat→Prop
 |[],_,_=>True
 |t::r,b,o=>TyAt S w t b o∧TysAt S w r b (o+4)
end
mutual
def ExAt (S:Nat→Prop) (w:World):Ex→Nat→Nat→Prop
 |.mk k n f s xs,b,o=>w.cell? ⟨b,o,none⟩=some (.int .i64 k)∧w.cell? ⟨b,o+1,none⟩=some (.int .i64 n)∧w.cell? ⟨b,o+2,none⟩=some (.string f)∧w.cell? ⟨b,o+3,none⟩=some (.string s)∧f.size≤maxLen∧s.size≤maxLen∧
   ∃v,w.cell? ⟨b,o+4,none⟩=some v∧∃a cap,v=.slice a xs.length cap∧(xs.length≤maxLen∧xs.length≤cap)∧(xs.length=0∨∃b' o',a=some ⟨b',o',none⟩∧S b'∧ExsAt S w xs b' o')
def ExsAt (S:Nat→Prop) (w:World):List Ex→Nat→Nat→Prop
 |[],_,_=>True
 |t::r,b,o=>ExAt S w t b o∧ExsAt S w r b (o+5)
end
def StrAt (w:World) (s:ByteArray) (b o:Nat):Prop:=w.cell? ⟨b,o,none⟩=some (.string s)∧s.size≤maxLen
def FdAt (S:Nat→Prop) (w:World) (f:Fd) (b o:Nat):Prop:=StrAt w f.name b o∧TyAt S w f.is b (o+1)
def FuAt (S:Nat→Prop) (w:World) (f:Fu) (b o:Nat):Prop:=
 StrAt w f.name b o∧StrAt w f.var b (o+1)∧(∃v,w.cell? ⟨b,o+2,none⟩=some v∧SlAt S (FdAt S w) 5 f.params v)∧TyAt S w f.result b (o+3)∧ExAt S w f.body b (o+7)
def TyCs (S:Nat→Prop) (w:World) (t:Ty) (k:Int) (f n:ByteArray) (va:Value):Prop:=∃xs,t=.mk k f n xs∧f.size≤maxLen∧n.size≤maxLen∧SlAt S (TyAt S w) 4 xs va
def ExCs (S:Nat→Prop) (w:World) (t:Ex) (k n:Int) (f s:ByteArray) (va:Value):Prop:=∃xs,t=.mk k n f s xs∧f.size≤maxLen∧s.size≤maxLen∧SlAt S (ExAt S w) 5 xs va
def TyIs (S:Nat→Prop) (w:World) (t:Ty) (v:Value):Prop:=∃k f n va,v=.agg #[.int .i64 k,.string f,.string n,va]∧TyCs S w t k f n va
def ExIs (S:Nat→Prop) (w:World) (t:Ex) (v:Value):Prop:=∃k n f s va,v=.agg #[.int .i64 k,.int .i64 n,.string f,.string s,va]∧ExCs S w t k n f s va
def FdIs (S:Nat→Prop) (w:World) (x:Fd) (v:Value):Prop:=∃k f n va,v=.agg #[.string x.name,.int .i64 k,.string f,.string n,va]∧x.name.size≤maxLen∧TyCs S w x.is k f n va
def FuIs (S:Nat→Prop) (w:World) (x:Fu) (v:Value):Prop:=∃vp k f n va k' n' f' s' va',v=.agg #[.string x.name,.string x.var,vp,.int .i64 k,.string f,.string n,va,.int .i64 k',.int .i64 n',.string f',.string s',va']∧x.name.size≤maxLen∧x.var.size≤maxLen∧
 SlAt S (FdAt S w) 5 x.params vp∧TyCs S w x.result k f n va∧ExCs S w x.body k' n' f' s' va'
def MoIs (S:Nat→Prop) (w:World) (m:Mo) (v:Value):Prop:=∃vu vt vf,v=.agg #[vu,vt,vf]∧SlAt S (StrAt w) 1 m.uses vu∧SlAt S (FdAt S w) 5 m.types vt∧SlAt S (FuAt S w) 12 m.funcs vf
structure Keeps (S S':Nat→Prop) (w w':World):Prop where
 blocks:∀b,S b→w'.heap[b]? = w.heap[b]?
 sub:∀b,S b→S' b
theorem SlAt.imp {α:Type} {S S':Nat→Prop} (hs:∀b,S b→S' b) {P Q:α→Nat→Nat→Prop} {c:Nat} {l:List α} {v:Value} (h:SlAt S P c l v) (hpq:∀t∈l,∀b o,S b→P t b o→Q t b o):SlAt S' Q c l v:=by
 obtain⟨a,cap,rfl,hl,h⟩:=h
 refine⟨a,cap,rfl,hl,h.imp_right ?_⟩
 rintro ⟨b,o,rfl,hb,hr⟩
 exact⟨b,o,rfl,hs b hb,hr.imp fun i hi o'=>hpq _ (List.getElem_mem hi) b o' hb⟩
theorem Keeps.cell {S S':Nat→Prop} {w w':World} (hk:Keeps S S' w w') {b o:Nat} (hb:S b):w'.cell? ⟨b,o,none⟩=w.cell? ⟨b,o,none⟩:=World.cell?_of_block (hk.blocks b hb)
mutual
theorem TyAt.keep {S S':Nat→Prop} {w w':World} (hk:Keeps S S' w w'):∀{t:Ty} {b o:Nat},S b→TyAt S w t b o→TyAt S' w' t b o
 |.mk k f n xs,b,o,hb,h=>by
  rw[TyAt] at h ⊢
  obtain⟨c0,c1,c2,s0,s1,v,c3,a,cap,rfl,hl,hr⟩:=h
  rw[hk.cell hb,hk.cell hb,hk.cell hb,hk.cell hb]
  refine⟨c0,c1,c2,s0,s1,_,c3,a,cap,rfl,hl,?_⟩
  rcases hr with hr|⟨b',o',ha,hb',hr⟩
  ·exact Or.inl hr
  ·exact Or.inr ⟨b',o',ha,hk.sub _ hb',TysAt.keep hk hb' hr⟩
theorem TysAt.keep {S S':Nat→Prop} {w w':World} (hk:Keeps S S' w w'):∀{l:List Ty} {b o:Nat},S b→TysAt S w l b o→TysAt S' w' l b o
 |[],_,_,_,_=>by rw[TysAt]; trivial
 |t::r,b,o,hb,h=>by
  rw[TysAt] at h ⊢
  exact⟨TyAt.keep hk hb h.1,TysAt.keep hk hb h.2⟩
end
mutual
theorem ExAt.keep {S S':Nat→Prop} {w w':World} (hk:Keeps S S' w w'):∀{t:Ex} {b o:Nat},S b→ExAt S w t b o→ExAt S' w' t b o
 |.mk k n f s xs,b,o,hb,h=>by
  rw[ExAt] at h ⊢
  obtain⟨c0,c1,c2,c3,s0,s1,v,c4,a,cap,rfl,hl,hr⟩:=h
  rw[hk.cell hb,hk.cell hb,hk.cell hb,hk.cell hb,hk.cell hb]
  refine⟨c0,c1,c2,c3,s0,s1,_,c4,a,cap,rfl,hl,?_⟩
  rcases hr with hr|⟨b',o',ha,hb',hr⟩
  ·exact Or.inl hr
  ·exact Or.inr ⟨b',o',ha,hk.sub _ hb',ExsAt.keep hk hb' hr⟩
theorem ExsAt.keep {S S':Nat→Prop} {w w':World} (hk:Keeps S S' w w'):∀{l:List Ex} {b o:Nat},S b→ExsAt S w l b o→ExsAt S' w' l b o
 |[],_,_,_,_=>by rw[ExsAt]; trivial
 |t::r,b,o,hb,h=>by
  rw[ExsAt] at h ⊢
  exact⟨ExAt.keep hk hb h.1,ExsAt.keep hk hb h.2⟩
end
theorem StrAt.keep {S S':Nat→Prop} {w w':World} (hk:Keeps S S' w w') {s:ByteArray} {b o:Nat} (hb:S b) (h:StrAt w s b o):StrAt w' s b o:=by
 unfold StrAt at h ⊢
 rwa [hk.cell hb]
theorem FdAt.keep {S S':Nat→Prop} {w w':World} (hk:Keeps S S' w w') {f:Fd} {b o:Nat} (hb:S b) (h:FdAt S w f b o):FdAt S' w' f b o:=⟨StrAt.keep hk hb h.1,TyAt.keep hk hb h.2⟩
theorem tySl_keep {S S':Nat→Prop} {w w':World} (hk:Keeps S S' w w') {l:List Ty} {v:Value} (h:SlAt S (TyAt S w) 4 l v):SlAt S' (TyAt S' w') 4 l v:=h.imp hk.sub fun _ _ _ _ hb' h=>TyAt.keep hk hb' h
theorem exSl_keep {S S':Nat→Prop} {w w':World} (hk:Keeps S S' w w') {l:List Ex} {v:Value} (h:SlAt S (ExAt S w) 5 l v):SlAt S' (ExAt S' w') 5 l v:=h.imp hk.sub fun _ _ _ _ hb' h=>ExAt.keep hk hb' h
theorem fdSl_keep {S S':Nat→Prop} {w w':World} (hk:Keeps S S' w w') {l:List Fd} {v:Value} (h:SlAt S (FdAt S w) 5 l v):SlAt S' (FdAt S' w') 5 l v:=h.imp hk.sub fun _ _ _ _ hb' h=>FdAt.keep hk hb' h
theorem strSl_keep {S S':Nat→Prop} {w w':World} (hk:Keeps S S' w w') {l:List ByteArray} {v:Value} (h:SlAt S (StrAt w) 1 l v):SlAt S' (StrAt w') 1 l v:=h.imp hk.sub fun _ _ _ _ hb' h=>StrAt.keep hk hb' h
theorem FuAt.keep {S S':Nat→Prop} {w w':World} (hk:Keeps S S' w w') {f:Fu} {b o:Nat} (hb:S b) (h:FuAt S w f b o):FuAt S' w' f b o:=by
 obtain⟨h0,h1,⟨v,hv,hp⟩,h2,h3⟩:=h
 exact⟨StrAt.keep hk hb h0,StrAt.keep hk hb h1,⟨v,by rwa [hk.cell hb],fdSl_keep hk hp⟩,TyAt.keep hk hb h2,ExAt.keep hk hb h3⟩
theorem fuSl_keep {S S':Nat→Prop} {w w':World} (hk:Keeps S S' w w') {l:List Fu} {v:Value} (h:SlAt S (FuAt S w) 12 l v):SlAt S' (FuAt S' w') 12 l v:=h.imp hk.sub fun _ _ _ _ hb' h=>FuAt.keep hk hb' h
theorem TyCs.keep {S S':Nat→Prop} {w w':World} (hk:Keeps S S' w w') {t:Ty} {k:Int} {f n:ByteArray} {v:Value} (h:TyCs S w t k f n v):TyCs S' w' t k f n v:=by
 obtain⟨xs,rfl,h1,h2,h3⟩:=h
 exact⟨xs,rfl,h1,h2,tySl_keep hk h3⟩
theorem ExCs.keep {S S':Nat→Prop} {w w':World} (hk:Keeps S S' w w') {t:Ex} {k n:Int} {f s:ByteArray} {v:Value} (h:ExCs S w t k n f s v):ExCs S' w' t k n f s v:=by
 obtain⟨xs,rfl,h1,h2,h3⟩:=h
 exact⟨xs,rfl,h1,h2,exSl_keep hk h3⟩
theorem TyIs.keep {S S':Nat→Prop} {w w':World} (hk:Keeps S S' w w') {t:Ty} {v:Value} (h:TyIs S w t v):TyIs S' w' t v:=by
 obtain⟨k,f,n,va,rfl,h1⟩:=h
 exact⟨k,f,n,va,rfl,h1.keep hk⟩
theorem ExIs.keep {S S':Nat→Prop} {w w':World} (hk:Keeps S S' w w') {t:Ex} {v:Value} (h:ExIs S w t v):ExIs S' w' t v:=by
 obtain⟨k,n,f,s,va,rfl,h1⟩:=h
 exact⟨k,n,f,s,va,rfl,h1.keep hk⟩
theorem FdIs.keep {S S':Nat→Prop} {w w':World} (hk:Keeps S S' w w') {x:Fd} {v:Value} (h:FdIs S w x v):FdIs S' w' x v:=by
 obtain⟨k,f,n,va,rfl,h1,h2⟩:=h
 exact⟨k,f,n,va,rfl,h1,h2.keep hk⟩
theorem FuIs.keep {S S':Nat→Prop} {w w':World} (hk:Keeps S S' w w') {x:Fu} {v:Value} (h:FuIs S w x v):FuIs S' w' x v:=by
 obtain⟨vp,k,f,n,va,k',n',f',s',va',rfl,h1,h2,h3,h4,h5⟩:=h
 exact⟨vp,k,f,n,va,k',n',f',s',va',rfl,h1,h2,fdSl_keep hk h3,h4.keep hk,h5.keep hk⟩
theorem MoIs.keep {S S':Nat→Prop} {w w':World} (hk:Keeps S S' w w') {m:Mo} {v:Value} (h:MoIs S w m v):MoIs S' w' m v:=by
 obtain⟨vu,vt,vf,rfl,h1,h2,h3⟩:=h
 exact⟨vu,vt,vf,rfl,strSl_keep hk h1,fdSl_keep hk h2,fuSl_keep hk h3⟩
theorem SlAt.slice {α:Type} {S:Nat→Prop} {P:α→Nat→Nat→Prop} {c:Nat} {l:List α} {v:Value} (h:SlAt S P c l v):∃a n cap,v=.slice a n cap:=by
 obtain⟨a,cap,rfl,_⟩:=h
 exact⟨a,_,cap,rfl⟩
theorem TyCs.slice {S:Nat→Prop} {w:World} {t:Ty} {k:Int} {f n:ByteArray} {v:Value} (h:TyCs S w t k f n v):∃a n cap,v=.slice a n cap:=by
 obtain⟨xs,rfl,_,_,h3⟩:=h
 exact h3.slice
theorem ExCs.slice {S:Nat→Prop} {w:World} {t:Ex} {k n:Int} {f s:ByteArray} {v:Value} (h:ExCs S w t k n f s v):∃a n cap,v=.slice a n cap:=by
 obtain⟨xs,rfl,_,_,h3⟩:=h
 exact h3.slice
theorem Keeps.below {S:Nat→Prop} {w w':World} {B:Nat} (h:Below B w w') (hS:∀b,S b→b<B):Keeps S S w w':=⟨fun b hb=>h.block b (hS b hb),fun _ h=>h⟩
end Go.Proofs.YtedpiamfpbdhoaaDoor
namespace Go.Proofs.YtedpiamfpbdhoaaDoor
open Go.RowKit
structure Kn where
 name:ByteArray
 is:ByteArray
structure Sg where
 name:ByteArray
 params:List ByteArray
 result:ByteArray
structure Fc where
 types:List Kn
 funcs:List Sg
structure Im where
 name:ByteArray
 there:Bool
 face:Fc
instance:Inhabited Kn:=⟨⟨.empty,.empty⟩⟩
instance:Inhabited Sg:=⟨⟨.empty,[],.empty⟩⟩
instance:Inhabited Im:=⟨⟨.empty,false,⟨[],[]⟩⟩⟩
def KnAt (w:World) (k:Kn) (b o:Nat):Prop:=StrAt w k.name b o∧StrAt w k.is b (o+1)
def SgAt (S:Nat→Prop) (w:World) (g:Sg) (b o:Nat):Prop:=
 StrAt w g.name b o∧(∃v,w.cell? ⟨b,o+1,none⟩=some v∧SlAt S (StrAt w) 1 g.params v)∧StrAt w g.result b (o+2)
def SgIs (S:Nat→Prop) (w:World) (g:Sg) (v:Value):Prop:=∃vp,v=.agg #[.string g.name,vp,.string g.result]∧g.name.size≤maxLen∧g.result.size≤maxLen∧SlAt S (StrAt w) 1 g.params vp
def FcCs (S:Nat→Prop) (w:World) (f:Fc) (vt vf:Value):Prop:=SlAt S (KnAt w) 2 f.types vt∧SlAt S (SgAt S w) 3 f.funcs vf
def FcIs (S:Nat→Prop) (w:World) (f:Fc) (v:Value):Prop:=∃vt vf,v=.agg #[vt,vf]∧FcCs S w f vt vf
def ImAt (S:Nat→Prop) (w:World) (i:Im) (b o:Nat):Prop:=
 StrAt w i.name b o∧w.cell? ⟨b,o+1,none⟩=some (.bool i.there)∧∃vt vf,w.cell? ⟨b,o+2,none⟩=some vt∧w.cell? ⟨b,o+3,none⟩=some vf∧FcCs S w i.face vt vf
theorem KnAt.keep {S S':Nat→Prop} {w w':World} (hk:Keeps S S' w w') {k:Kn} {b o:Nat} (hb:S b) (h:KnAt w k b o):KnAt w' k b o:=⟨StrAt.keep hk hb h.1,StrAt.keep hk hb h.2⟩
theorem knSl_keep {S S':Nat→Prop} {w w':World} (hk:Keeps S S' w w') {l:List Kn} {v:Value} (h:SlAt S (KnAt w) 2 l v):SlAt S' (KnAt w') 2 l v:=h.imp hk.sub fun _ _ _ _ hb' h=>KnAt.keep hk hb' h
theorem SgAt.keep {S S':Nat→Prop} {w w':World} (hk:Keeps S S' w w') {g:Sg} {b o:Nat} (hb:S b) (h:SgAt S w g b o):SgAt S' w' g b o:=by
 obtain⟨h0,⟨v,hv,hp⟩,h1⟩:=h
 exact⟨StrAt.keep hk hb h0,⟨v,by rwa [hk.cell hb],strSl_keep hk hp⟩,StrAt.keep hk hb h1⟩
theorem sgSl_keep {S S':Nat→Prop} {w w':World} (hk:Keeps S S' w w') {l:List Sg} {v:Value} (h:SlAt S (SgAt S w) 3 l v):SlAt S' (SgAt S' w') 3 l v:=h.imp hk.sub fun _ _ _ _ hb' h=>SgAt.keep hk hb' h
theorem SgIs.keep {S S':Nat→Prop} {w w':World} (hk:Keeps S S' w w') {g:Sg} {v:Value} (h:SgIs S w g v):SgIs S' w' g v:=by
 obtain⟨vp,rfl,h1,h2,h3⟩:=h
 exact⟨vp,rfl,h1,h2,strSl_keep hk h3⟩
theorem FcCs.keep {S S':Nat→Prop} {w w':World} (hk:Keeps S S' w w') {f:Fc} {vt vf:Value} (h:FcCs S w f vt vf):FcCs S' w' f vt vf:=⟨knSl_keep hk h.1,sgSl_keep hk h.2⟩
theorem FcIs.keep {S S':Nat→Prop} {w w':World} (hk:Keeps S S' w w') {f:Fc} {v:Value} (h:FcIs S w f v):FcIs S' w' f v:=by
 obtain⟨vt,vf,rfl,h1⟩:=h
 exact⟨vt,vf,rfl,h1.keep hk⟩
theorem ImAt.keep {S S':Nat→Prop} {w w':World} (hk:Keeps S S' w w') {i:Im} {b o:Nat} (hb:S b) (h:ImAt S w i b o):ImAt S' w' i b o:=by
 obtain⟨h0,h1,vt,vf,h2,h3,h4⟩:=h
 exact⟨StrAt.keep hk hb h0,by rwa [hk.cell hb],vt,vf,by rwa [hk.cell hb],by rwa [hk.cell hb],h4.keep hk⟩
def sEq (a b:ByteArray):Bool:=a.toList==b.toList
theorem sEq_refl (a:ByteArray):sEq a a=true:=by simp[sEq]
theorem SlAt.len {α:Type} {S:Nat→Prop} {P:α→Nat→Nat→Prop} {c:Nat} {l:List α} {v:Value} (h:SlAt S P c l v):l.length≤maxLen:=by
 obtain⟨_,_,_,h,_⟩:=h
 exact h.1
theorem SlAt.is {α:Type} {S:Nat→Prop} {P:α→Nat→Nat→Prop} {c:Nat} {l:List α} {v:Value} (h:SlAt S P c l v):∃a cap,v=.slice a l.length cap:=by
 obtain⟨a,cap,rfl,_⟩:=h
 exact⟨a,cap,rfl⟩
theorem SlAt.at {α:Type} {S:Nat→Prop} {P:α→Nat→Nat→Prop} {c:Nat} {l:List α} {a:Option Addr} {n cap:Nat} (h:SlAt S P c l (.slice a n cap)) {k:Nat} (hk:k<l.length) :
  n=l.length∧∃b o,a=some ⟨b,o,none⟩∧S b∧P l[k] b (o+k * c):=by
 obtain⟨a',cap',e,_,h⟩:=h
 injection e with e1 e2 e3
 subst e1 e2
 rcases h with h|⟨b,o,rfl,hb,hr⟩
 ·omega
 ·exact⟨rfl,b,o,rfl,hb,hr.get k hk⟩
end Go.Proofs.YtedpiamfpbdhoaaDoor
namespace Go.Proofs.YtedpiamfpbdhoaaDoor
open Go.RowKit
def LieAt (W:World) (cs:List Value) (b o:Nat):Prop:=b<W.heap.size∧∀j,j<cs.length→W.cell? ⟨b,o+j,none⟩=cs[j]?
theorem weights_all {H:Type} {P:Program} {e:TypeId}:∀{l:List (DataW H)} {d:DataW H},d∈l→∀n∈d.weights P e,n∈DataW.weightsAll P e l
 |[],_,h,_,_=>by cases h
 |x::r,d,h,n,hn=>by
  rw[DataW.weightsAll,List.mem_append]
  rcases List.mem_cons.1 h with rfl|h
  ·exact .inl hn
  ·exact .inr (weights_all h n hn)
theorem sl_readZ {α:Type} [Inhabited α] {H:Type} {enc:TypeId×Value→H} {W:World} {base:Nat} {spare:Nat→Bool} {held:Bool} {P:α→Nat→Nat→Prop} {Q:α→Prop} {c z:Nat} {t e:TypeId} (ht:Tryd.prog.underlying t=some (.slice e)) (hc:Tryd.prog.cellsOf e=c) (hz:Tryd.prog.bytesOf e=z) (h0:0<c)
  {fuel:Nat} {cs:List Value} {x:DataW H×List MemPlace} (h:DataW.trod enc Tryd.prog W base spare held fuel t cs=some x) (hx:∀n∈x.1.weights Tryd.prog t,n≤reachBytes)
  (hel:∀(m:Nat) (cs':List Value) (x':DataW H×List MemPlace) (b o:Nat),DataW.trod enc Tryd.prog W base spare held m e cs'=some x'→(∀n∈x'.1.weights Tryd.prog e,n≤reachBytes)→cs'.length=c→LieAt W cs' b o→∃y:α,P y b o∧Q y) :
  ∃v l,cs=[v]∧SlAt (fun b=>b<W.heap.size) P c l v∧l.length * z≤reachBytes∧∀y∈l,Q y:=by
 rcases DataW.trod_slice ht h with ⟨hcs,_⟩|⟨a,len,cap,elems,rest,n,hfu,rfl,rfl,_,hlc,hcm,hlen,hels,_,_⟩
 ·exact⟨_,[],hcs,⟨none,0,rfl,⟨by simp,by simp⟩,Or.inl rfl⟩,by simp,by simp⟩
 ·by_cases hl0:len=0
  ·subst hl0
   exact⟨_,[],rfl,⟨_,cap,rfl,⟨by simp,by simp⟩,Or.inl rfl⟩,by simp,by simp⟩
  ·have hw:(elems.length+rest.length) * z≤reachBytes:=by
    have:=hx ((elems.length+rest.length) * z) (by simp[DataW.weights,ht,hz])
    exact this
   have each:∀i,i<len→∃cs' x',W.cells? base (a.add (i * c)) c=some cs'∧DataW.trod enc Tryd.prog W base spare held n e cs'=some x'∧∀m∈x'.1.weights Tryd.prog e,m≤reachBytes:=fun i hi=>by
    have:=hels i hi
    rw[hc,List.getElem?_eq_getElem (by omega)] at this
    obtain⟨cs',h1,h2⟩:=Option.bind_eq_some_iff.1 this
    refine⟨cs',_,h1,h2,fun m hm=>hx m ?_⟩
    have hmem:(elems[i]'(by omega)).1∈elems.map (·.1):=List.mem_map_of_mem (List.getElem_mem _)
    have:=weights_all (P:=Tryd.prog) (e:=e) hmem m hm
    simp only[DataW.weights,ht]
    exact List.mem_cons_of_mem _ (List.mem_append_left _ this)
   obtain⟨b,off,spot⟩:=a
   have hspot:spot=none:=by
    obtain⟨cs',x',h1,_⟩:=each 0 (by omega)
    obtain⟨_,hl,hce⟩:=World.cells?_some h1
    have:=hce 0 h0
    rw[List.getElem?_eq_getElem (by omega)] at this
    simpa [Addr.add] using World.cell?_spot this
   subst hspot
   have each2:∀i,i<len→∃y:α,P y b (off+i * c)∧Q y:=fun i hi=>by
    obtain⟨cs',x',h1,h2,h3⟩:=each i hi
    obtain⟨_,hl,hce⟩:=World.cells?_some h1
    have cell:∀j,j<cs'.length→W.cell? ⟨b,off+i * c+j,none⟩=cs'[j]?:=fun j hj=>by
     have:=hce j (by omega)
     rw[Go.WideShapes.add_plain,Go.WideShapes.add_plain] at this
     exact this
    refine hel n cs' x' b (off+i * c) h2 h3 hl ⟨?_,cell⟩
    have:=cell 0 (by omega)
    rw[List.getElem?_eq_getElem (by omega)] at this
    exact World.block_lt_of_cell? W _ this
   obtain⟨q,hq⟩:=Deep.choose_lt each2
   have hb:b<W.heap.size:=by
    obtain⟨cs',x',h1,_⟩:=each 0 (by omega)
    obtain⟨_,hl,hce⟩:=World.cells?_some h1
    have:=hce 0 h0
    rw[List.getElem?_eq_getElem (by omega),Go.WideShapes.add_plain,Go.WideShapes.add_plain] at this
    exact World.block_lt_of_cell? W _ this
   refine⟨_,(List.range len).map q,rfl,⟨some ⟨b,off,none⟩,cap,by simp,⟨by simp; omega,by simp; omega⟩,Or.inr ⟨b,off,rfl,hb,RowAt.mk fun i hi=>?_⟩⟩,?_,?_⟩
   ·have hi':i<len:=by simpa using hi
    simpa using (hq i hi').1
   ·rw[List.length_map,List.length_range,← hlen]
    exact Nat.le_trans (Nat.mul_le_mul_right z (Nat.le_add_right _ _)) hw
   ·intro y hy
    obtain⟨i,hi,rfl⟩:=List.mem_map.1 hy
    exact (hq i (List.mem_range.1 hi)).2
section
variable {H:Type} {enc:TypeId×Value→H} {W:World} {base:Nat} {spare:Nat→Bool} {held:Bool}
end
end Go.Proofs.YtedpiamfpbdhoaaDoor
namespace Go.Proofs.YtedpiamfpbdhoaaDoor
open Go.RowKit
end Go.Proofs.YtedpiamfpbdhoaaDoor
namespace Go.Proofs.YtedpiamfpbdhoaaDoor
open Go.RowKit
end Go.Proofs.YtedpiamfpbdhoaaDoor
namespace Go.Proofs.YtedpiamfpbdhoaaDoor
open Go.RowKit
def findAt {α:Type} (p:α→Bool):List α→Nat
 |[]=>0
 |x::r=>if p x=true then 0 else findAt p r+1
theorem find_yes {α:Type} {p:α→Bool} {l:List α} {k:Nat} (hk:k<l.length) (h:p l[k]=true):findAt p (l.drop k)=0:=by
 rw[List.drop_eq_getElem_cons hk,findAt,if_pos h]
theorem find_no {α:Type} {p:α→Bool} {l:List α} {k:Nat} (hk:k<l.length) (h:p l[k]=false):findAt p (l.drop k)=findAt p (l.drop (k+1))+1:=by
 rw[List.drop_eq_getElem_cons hk,findAt,if_neg (by rw[h]; simp)]
theorem find_end {α:Type} {p:α→Bool} {l:List α} {k:Nat} (hk:l.length≤k):findAt p (l.drop k)=0:=by
 rw[List.drop_eq_nil_of_le hk,findAt]
def idxOf {α:Type} (p:α→Bool) (l:List α):Int:=if findAt p l<l.length then (findAt p l:Int) else -1
end Go.Proofs.YtedpiamfpbdhoaaDoor
namespace Go.Proofs.YtedpiamfpbdhoaaDoor
open Go.RowKit
theorem beq_flip (s x:ByteArray):(s.toList==x.toList)=(x.toList==s.toList):=by
 rw[Bool.eq_iff_iff,beq_iff_eq,beq_iff_eq]
 exact eq_comm
set_option maxHeartbeats 2000000 in
theorem index_str (S:Nat→Prop) (l:List ByteArray) (s:ByteArray) (v:Value) (w:World) (hS:∀b,S b→b<w.heap.size) (hv:SlAt S (StrAt w) 1 l v) :
  Calls Tryd.prog 13 #[v,.string s] w fun e w'=>e=.returned (.int .i64 (idxOf (fun x=>sEq x s) l))∧Below w.heap.size w w':=by
 have HV:=veil hv
 have hlen:=hv.len
 unfold maxLen at hlen
 obtain⟨a,cap,rfl⟩:=hv.is
 clear hv
 go_enter Tryd.func13,Tryd.ntmps13
 go_wp2_with fail
 go_loopw [8] (fun i wr=>∃j:Nat,j≤l.length∧i=.int .i64 j∧findAt (fun x=>sEq x s) l=j+findAt (fun x=>sEq x s) (l.drop j)∧Below w.heap.size w wr) (fun i _=>l.length - (intOf i).toNat)
 case atStart=>exact⟨0,Nat.zero_le _,rfl,(Nat.zero_add _).symm,Below.refl _ _⟩
 case round=>
  obtain⟨j,hj,rfl,hq,hbl⟩:=hrel
  have HQ:=veil hq
  have HBW:=veil hbl
  clear hq
  by_cases hlt:j<l.length
  ·have hlt':(j:Int)<(l.length:Int):=by omega
   obtain⟨_,b,off,rfl,hb,a0,m0⟩:=HV.out.at hlt
   have hbk:=hS b hb
   rw[Nat.mul_one] at a0
   have d0:=(hbl.cell (p:=⟨b,off+j,none⟩) hbk).trans a0
   have HYes:Hid ((s.toList==l[j].toList)=true→findAt (fun x=>sEq x s) l=j):=fun h=>by
    rw[beq_flip] at h
    rw[HQ.out,find_yes hlt h]; rfl
   have HNo:Hid ((s.toList==l[j].toList)=false→findAt (fun x=>sEq x s) l=(j+1)+findAt (fun x=>sEq x s) (l.drop (j+1))):=fun h=>by
    rw[beq_flip] at h
    rw[HQ.out,find_no hlt h]; omega
   clear a0 m0 HV hbl HQ
   generalize l[j]=x at *
   cases hx:(s.toList==x.toList) with
   |true=>
    have HI:Hid (idxOf (fun x=>sEq x s) l=(j:Int)):=by
     show _=_
     unfold idxOf
     rw[HYes.out hx,if_pos hlt]
    clear HYes HNo
    go_wp2_with fail
    go_ret
    exact⟨by rw[HI.out]; rfl,HBW.out⟩
   |false=>
    have HN:=veil (HNo.out hx)
    clear HYes HNo
    go_wp2_with fail
    exact⟨⟨j+1,by omega,by go_num,HN.out,HBW.out⟩,by simp[intOf]; omega⟩
  ·have hnl:¬(j:Int)<(l.length:Int):=by omega
   have HI:Hid (idxOf (fun x=>sEq x s) l=-1):=by
    show _=_
    unfold idxOf
    rw[HQ.out,find_end (by omega),if_neg (by omega)]
   clear HV hbl HQ
   go_wp2_with fail
   go_ret
   exact⟨by rw[HI.out]; rfl,HBW.out⟩
end Go.Proofs.YtedpiamfpbdhoaaDoor
namespace Go.Proofs.YtedpiamfpbdhoaaDoor
open Go.RowKit
theorem text_eq (s:ByteArray) (l:List UInt8):(s.toList==l)=(s.data.toList==l):=by
 rw[Lib.toList_data]
theorem kw_parts (s:ByteArray):kwB s=((s.toList==[117,115,101])||((s.toList==[116,121,112,101])||((s.toList==[102,117,110,99])||((s.toList==[105,110,116])||(s.toList==[116,101,120,116]))))):=by
 rw[text_eq s [117,115,101],text_eq s [116,121,112,101],text_eq s [102,117,110,99],text_eq s [105,110,116],text_eq s [116,101,120,116]]
 rfl
set_option maxHeartbeats 1000000 in
theorem ident_any (s:ByteArray) (hs:s.size≤maxLen) (w:World):Calls Tryd.prog 60 #[.string s] w fun e w'=>e=.returned (.bool (identOk s))∧Below w.heap.size w w':=by
 have HK:=veil (kw_parts s)
 have HI:Hid (identOk s=(wordOk s&&!kwB s)):=rfl
 have stop:∀b,kwB s=true→Ending.returned (Value.bool false)=Ending.returned (.bool (identOk s))∧Below b w w:=fun b h=>⟨by rw[HI.out,h]; simp,Below.refl _ _⟩
 have HS:=veil stop
 clear stop
 cases h1:(s.toList==[117,115,101])
 case true=>
  have HT:Hid (kwB s=true):=by show _=_; rw[HK.out,h1]; rfl
  go_enter Tryd.func60,Tryd.ntmps60
  go_wp2_with fail
  go_ret
  exact HS.out _ HT.out
 cases h2:(s.toList==[116,121,112,101])
 case true=>
  have HT:Hid (kwB s=true):=by show _=_; rw[HK.out,h1,h2]; rfl
  go_enter Tryd.func60,Tryd.ntmps60
  go_wp2_with fail
  go_ret
  exact HS.out _ HT.out
 cases h3:(s.toList==[102,117,110,99])
 case true=>
  have HT:Hid (kwB s=true):=by show _=_; rw[HK.out,h1,h2,h3]; rfl
  go_enter Tryd.func60,Tryd.ntmps60
  go_wp2_with fail
  go_ret
  exact HS.out _ HT.out
 cases h4:(s.toList==[105,110,116])
 case true=>
  have HT:Hid (kwB s=true):=by show _=_; rw[HK.out,h1,h2,h3,h4]; rfl
  go_enter Tryd.func60,Tryd.ntmps60
  go_wp2_with fail
  go_ret
  exact HS.out _ HT.out
 cases h5:(s.toList==[116,101,120,116])
 case true=>
  have HT:Hid (kwB s=true):=by show _=_; rw[HK.out,h1,h2,h3,h4,h5]; rfl
  go_enter Tryd.func60,Tryd.ntmps60
  go_wp2_with fail
  go_ret
  exact HS.out _ HT.out
 have HT:Hid (kwB s=false):=by show _=_; rw[HK.out,h1,h2,h3,h4,h5]; rfl
 go_enter Tryd.func60,Tryd.ntmps60
 go_wp2_with fail
 refine (word_any s hs _).mono ?_
 rintro e w' ⟨rfl,hb⟩
 go_wp2
 go_ret
 exact⟨by rw[HI.out,HT.out]; simp,hb⟩
end Go.Proofs.YtedpiamfpbdhoaaDoor
namespace Go.Proofs.YtedpiamfpbdhoaaDoor
open Go.RowKit
end Go.Proofs.YtedpiamfpbdhoaaDoor
namespace Go.Proofs
open Go.Shelf
def Tryd.laysM316_ren:Go.Shelf.Ren:=⟨fun|316=>64|n=>n,fun|9=>9|3=>3|4=>4|37=>95|0=>0|127=>96|5=>5|n=>n,fun|n=>n⟩
theorem Tryd.laysM316:Go.Proofs.LaysM.n316 Tryd.prog Tryd.laysM316_ren:={
 mixed:=by kernel_rfl
 f316:=Tryd.func64.trans (congrArg some (by kernel_rfl))
 t0:=Tryd.underlying0
 a0:=Tryd.isAgg0
 z0:=Tryd.sizeOf0
 v0:=Tryd.zeroValue0
 t3:=Tryd.underlying3
 a3:=Tryd.isAgg3
 z3:=Tryd.sizeOf3
 v3:=Tryd.zeroValue3
 t4:=Tryd.underlying4
 a4:=Tryd.isAgg4
 z4:=Tryd.sizeOf4
 v4:=Tryd.zeroValue4
 t9:=Tryd.underlying9
 a9:=Tryd.isAgg9
 z9:=Tryd.sizeOf9
 v9:=Tryd.zeroValue9
 t37:=Tryd.underlying95
 a37:=Tryd.isAgg95
 z37:=Tryd.sizeOf95
 v37:=Tryd.zeroValue95
 t127:=Tryd.underlying96
 a127:=Tryd.isAgg96
 z127:=Tryd.sizeOf96
 v127:=Tryd.zeroValue96
 t5:=Tryd.underlying5
 a5:=Tryd.isAgg5
 z5:=Tryd.sizeOf5
 v5:=Tryd.zeroValue5
 i0:=by kernel_rfl
 i3:=by kernel_rfl
 i4:=by kernel_rfl
 i5:=by kernel_rfl
 i9:=by kernel_rfl
 i37:=by kernel_rfl
 i127:=by kernel_rfl }
open Go.RowKit in
theorem Tryd.stringslite_Clone (s:ByteArray) (w:World) (hlim:s.size≤281474976710656) :
  Calls Tryd.prog 64 #[.string s] w fun e w'=>e=.returned (.string s)∧Below w.heap.size w w':=Any.stringslite_Clone Tryd.laysM316 s w hlim
end Go.Proofs
namespace Go.Proofs.YtedpiamfpbdhoaaDoor
open Go.RowKit
theorem clone_kind (s:ByteArray) (w:World) (h:s.size≤281474976710656) :
  Calls Tryd.prog 45 #[.string s] w fun e w'=>e=.returned (.string s)∧Below w.heap.size w w':=by
 go_enter Tryd.func45,Tryd.ntmps45
 go_wp2_with (go_at_call 64; refine (Tryd.stringslite_Clone s _ h).mono ?_; rintro e w' ⟨rfl,hb⟩)
 go_ret
 exact⟨rfl,hb⟩
end Go.Proofs.YtedpiamfpbdhoaaDoor
namespace Go.Proofs.YtedpiamfpbdhoaaDoor
open Go.RowKit
def bad4 (ok:Bool):Int:=if ok=true then 0 else 4
def gtB (s p:ByteArray):Bool:=!Op.bytesLess s.toList p.toList&&!(s.toList==p.toList)
end Go.Proofs.YtedpiamfpbdhoaaDoor
namespace Go.Proofs.YtedpiamfpbdhoaaDoor
open Go.RowKit
def orderFault {α:Type} (fault:α→Int) (name:α→ByteArray):List α→ByteArray→Int
 |[],_=>0
 |x::r,p=>if fault x=0 then (if gtB (name x) p=true then orderFault fault name r (name x) else 7) else fault x
theorem order_bad {α:Type} {fault:α→Int} {name:α→ByteArray} {l:List α} {k:Nat} {p:ByteArray} (hk:k<l.length) (h:fault l[k]≠0):orderFault fault name (l.drop k) p=fault l[k]:=by
 rw[List.drop_eq_getElem_cons hk,orderFault,if_neg h]
theorem order_low {α:Type} {fault:α→Int} {name:α→ByteArray} {l:List α} {k:Nat} {p:ByteArray} (hk:k<l.length) (h:fault l[k]=0) (hg:gtB (name l[k]) p=false):orderFault fault name (l.drop k) p=7:=by
 rw[List.drop_eq_getElem_cons hk,orderFault,if_pos h,if_neg (by rw[hg]; simp)]
theorem order_on {α:Type} {fault:α→Int} {name:α→ByteArray} {l:List α} {k:Nat} {p:ByteArray} (hk:k<l.length) (h:fault l[k]=0) (hg:gtB (name l[k]) p=true):orderFault fault name (l.drop k) p=orderFault fault name (l.drop (k+1)) (name l[k]):=by
 rw[List.drop_eq_getElem_cons hk,orderFault,if_pos h,if_pos hg]
theorem order_end {α:Type} {fault:α→Int} {name:α→ByteArray} {l:List α} {k:Nat} {p:ByteArray} (hk:l.length≤k):orderFault fault name (l.drop k) p=0:=by
 rw[List.drop_eq_nil_of_le hk,orderFault]
def Ahead (w:World) (p:ByteArray) (W:World):Prop:=Below w.heap.size w W∧w.heap.size<W.heap.size∧W.cell? ⟨w.heap.size,0,none⟩=some (.string p)∧W.frozen? ⟨w.heap.size,0,none⟩=false
theorem Ahead.later {w:World} {p:ByteArray} {W W':World} (h:Ahead w p W) (hb:Below W.heap.size W W'):Ahead w p W':=
 ⟨h.1.trans (hb.mono h.1.size),Nat.lt_of_lt_of_le h.2.1 hb.size,(hb.cell h.2.1).trans h.2.2.1,(hb.frozen h.2.1).trans h.2.2.2⟩
theorem Ahead.put {w:World} {p:ByteArray} {W:World} (h:Ahead w p W) (s:ByteArray):Ahead w s (W.setCell ⟨w.heap.size,0,none⟩ (.string s)):=
 ⟨h.1.setCell (Nat.le_refl _) _,by simpa [World.setCell] using h.2.1,World.cell?_setCell_same' _ _ _ (by rw[h.2.2.1]; rfl),by rw[← h.2.2.2]; simp[go_sem]⟩
end Go.Proofs.YtedpiamfpbdhoaaDoor
namespace Go.Proofs.YtedpiamfpbdhoaaDoor
open Go.RowKit
end Go.Proofs.YtedpiamfpbdhoaaDoor
namespace Go.Proofs.YtedpiamfpbdhoaaDoor
open Go.RowKit
end Go.Proofs.YtedpiamfpbdhoaaDoor
namespace Go.Proofs.YtedpiamfpbdhoaaDoor
open Go.RowKit
theorem ident_size {s:ByteArray} (h:identOk s=true):0<s.size:=by
 have h1:wordOk s=true:=by
  unfold identOk at h
  simp only[Bool.and_eq_true] at h
  exact h.1
 by_cases hs:1≤s.size∧s.size≤8
 ·omega
 ·rw[word_long s hs] at h1
  cases h1
theorem gt_empty {s:ByteArray} (h:identOk s=true):gtB s ⟨#[]⟩=true:=by
 have hz:=ident_size h
 have h0:s.toList≠[]:=by
  rw[Lib.toList_data]
  intro e
  have h1:=congrArg List.length e
  rw[Array.length_toList] at h1
  have h2:s.size=0:=h1
  omega
 have he:(⟨#[]⟩:ByteArray).toList=[]:=by rw[Lib.toList_data]
 unfold gtB
 rw[he]
 cases hs:s.toList with
 |nil=>exact absurd hs h0
 |cons a r=>rfl
def leB (s p:ByteArray):Bool:=Op.bytesLess s.toList p.toList||s.toList==p.toList
theorem gt_not_le (s p:ByteArray):gtB s p=!leB s p:=by unfold gtB leB; rw[Bool.not_or]
theorem below_drewN {B:Nat} {a w:World} (h:Below B a w) (n:Nat):Below B a (w.drewN n):=⟨h.os,h.tape,h.output,h.size,h.block⟩
end Go.Proofs.YtedpiamfpbdhoaaDoor
namespace Go.Proofs.YtedpiamfpbdhoaaDoor
open Go.RowKit
def ImIs (S:Nat→Prop) (w:World) (i:Im) (v:Value):Prop:=∃vt vf,v=.agg #[.string i.name,.bool i.there,vt,vf]∧i.name.size≤maxLen∧FcCs S w i.face vt vf
theorem ImIs.keep {S S':Nat→Prop} {w w':World} (hk:Keeps S S' w w') {i:Im} {v:Value} (h:ImIs S w i v):ImIs S' w' i v:=by
 obtain⟨vt,vf,rfl,h1,h2⟩:=h
 exact⟨vt,vf,rfl,h1,h2.keep hk⟩
end Go.Proofs.YtedpiamfpbdhoaaDoor
namespace Go.Proofs.YtedpiamfpbdhoaaDoor
open Go.RowKit
end Go.Proofs.YtedpiamfpbdhoaaDoor
namespace Go.Proofs.YtedpiamfpbdhoaaDoor
open Go.RowKit
end Go.Proofs.YtedpiamfpbdhoaaDoor
namespace Go.Proofs.YtedpiamfpbdhoaaDoor
open Go.RowKit
end Go.Proofs.YtedpiamfpbdhoaaDoor
namespace Go.Proofs.YtedpiamfpbdhoaaDoor
open Go.RowKit
structure RowJ {α:Type} (w:World) (e:TypeId) (c:Nat) (P:World→α→Nat→Prop) (l:List α) (j:Nat) (W:World):Prop where
 bel:Below w.heap.size w W
 row:∃cur,W.heap[w.heap.size]? = some (.cells cur e (0,0))∧cur.size=l.length * c
 old:∀i (hi:i<l.length),i<j→P W l[i] (i * c)
theorem row_lt {W:World} {b:Nat} {o:Obj} (h:W.heap[b]? = some o):b<W.heap.size:=by
 rcases Nat.lt_or_ge b W.heap.size with h1|h1
 ·exact h1
 ·rw[Array.getElem?_eq_none h1] at h
  cases h
theorem RowJ.lt {α:Type} {w:World} {e:TypeId} {c:Nat} {P:World→α→Nat→Prop} {l:List α} {j:Nat} {W:World} (h:RowJ w e c P l j W):w.heap.size<W.heap.size:=by
 obtain⟨cur,h1,_⟩:=h.row
 exact row_lt h1
end Go.Proofs.YtedpiamfpbdhoaaDoor
namespace Go.Proofs.YtedpiamfpbdhoaaDoor
open Go.RowKit
theorem str_info:(Tryd.prog.info? 9).map (fun i=>(i.zero,i.size,i.bytes))=some (some (.string ⟨#[]⟩),1,16):=by kernel_rfl
end Go.Proofs.YtedpiamfpbdhoaaDoor
namespace Go.Proofs.YtedpiamfpbdhoaaDoor
open Go.RowKit
def SgBox (w:World) (x y:ByteArray) (p:Value) (W:World):Prop:=
 Below w.heap.size w W∧W.cell? ⟨w.heap.size,0,none⟩=some (.string x)∧W.cell? ⟨w.heap.size,1,none⟩=some p∧W.cell? ⟨w.heap.size,2,none⟩=some (.string y)
theorem SgBox.later {w:World} {x y:ByteArray} {p:Value} {W W':World} (h:SgBox w x y p W) (hb:Below W.heap.size W W'):SgBox w x y p W':=by
 obtain⟨h0,h1,h2,h3⟩:=h
 exact⟨h0.trans (hb.mono h0.size),(hb.cell (World.block_lt_of_cell? _ _ h1)).trans h1,(hb.cell (World.block_lt_of_cell? _ _ h2)).trans h2,(hb.cell (World.block_lt_of_cell? _ _ h3)).trans h3⟩
end Go.Proofs.YtedpiamfpbdhoaaDoor
namespace Go.Proofs.YtedpiamfpbdhoaaDoor
open Go.RowKit
def FcBox (w:World) (p q:Value) (W:World):Prop:=
 Below w.heap.size w W∧W.cell? ⟨w.heap.size,0,none⟩=some p∧W.cell? ⟨w.heap.size,1,none⟩=some q
theorem FcBox.later {w:World} {p q:Value} {W W':World} (h:FcBox w p q W) (hb:Below W.heap.size W W'):FcBox w p q W':=by
 obtain⟨h0,h1,h2⟩:=h
 exact⟨h0.trans (hb.mono h0.size),(hb.cell (World.block_lt_of_cell? _ _ h1)).trans h1,(hb.cell (World.block_lt_of_cell? _ _ h2)).trans h2⟩
end Go.Proofs.YtedpiamfpbdhoaaDoor
namespace Go.Proofs.YtedpiamfpbdhoaaDoor
open Go.RowKit
theorem less_trans:∀{a b c:List UInt8},Op.bytesLess a b=false→Op.bytesLess b c=false→Op.bytesLess a c=false
 |[],[],_,_,h=>h
 |[],_::_,_,h,_=>by simp[Op.bytesLess] at h
 |_::_,_,[],_,_=>by simp[Op.bytesLess]
 |_::_,[],_::_,_,h=>by simp[Op.bytesLess] at h
 |x::xs,y::ys,z::zs,h1,h2=>by
  simp only[Op.bytesLess,Bool.or_eq_false_iff,decide_eq_false_iff_not,Bool.and_eq_false_iff,beq_eq_false_iff_ne] at *
  obtain⟨h1,h1'⟩:=h1
  obtain⟨h2,h2'⟩:=h2
  have e1:¬x.toNat<y.toNat:=fun h=>h1 (UInt8.lt_iff_toNat_lt.2 h)
  have e2:¬y.toNat<z.toNat:=fun h=>h2 (UInt8.lt_iff_toNat_lt.2 h)
  refine⟨fun h=>by have:=UInt8.lt_iff_toNat_lt.1 h; omega,?_⟩
  by_cases hxz:x=z
  ·subst hxz
   have hxy:x=y:=UInt8.toNat_inj.1 (by omega)
   subst hxy
   exact Or.inr (less_trans (h1'.resolve_left (fun h=>h rfl)) (h2'.resolve_left (fun h=>h rfl)))
  ·exact Or.inl hxz
theorem less_eq:∀{a b:List UInt8},Op.bytesLess a b=false→Op.bytesLess b a=false→a=b
 |[],[],_,_=>rfl
 |[],_::_,h,_=>by simp[Op.bytesLess] at h
 |_::_,[],_,h=>by simp[Op.bytesLess] at h
 |x::xs,y::ys,h1,h2=>by
  simp only[Op.bytesLess,Bool.or_eq_false_iff,decide_eq_false_iff_not,Bool.and_eq_false_iff,beq_eq_false_iff_ne] at *
  obtain⟨h1,h1'⟩:=h1
  obtain⟨h2,h2'⟩:=h2
  have e1:¬x.toNat<y.toNat:=fun h=>h1 (UInt8.lt_iff_toNat_lt.2 h)
  have e2:¬y.toNat<x.toNat:=fun h=>h2 (UInt8.lt_iff_toNat_lt.2 h)
  have hxy:x=y:=UInt8.toNat_inj.1 (by omega)
  subst hxy
  rw[less_eq (h1'.resolve_left (fun h=>h rfl)) (h2'.resolve_left (fun h=>h rfl))]
theorem gt_trans {a b c:ByteArray} (h1:gtB a b=true) (h2:gtB b c=true):gtB a c=true:=by
 unfold gtB at *
 simp only[Bool.and_eq_true,Bool.not_eq_true',beq_eq_false_iff_ne] at *
 refine⟨less_trans h1.1 h2.1,fun e=>?_⟩
 rw[e] at h1
 exact h1.2 (less_eq h1.1 h2.1)
theorem gt_ne {a b:ByteArray} (h:gtB a b=true):sEq a b=false:=by
 unfold gtB at h
 simp only[Bool.and_eq_true,Bool.not_eq_true'] at h
 exact h.2
theorem order_all {α:Type} {fault:α→Int} {name:α→ByteArray} (h7:∀x,fault x≠0→fault x≠0):∀{l:List α} {p:ByteArray},orderFault fault name l p=0→∀x∈l,gtB (name x) p=true∧fault x=0
 |[],_,_,_,h=>by cases h
 |y::r,p,h,x,hx=>by
  rw[orderFault] at h
  by_cases hf:fault y=0
  ·rw[if_pos hf] at h
   by_cases hg:gtB (name y) p=true
   ·rw[if_pos hg] at h
    rcases List.mem_cons.1 hx with rfl|hx
    ·exact⟨hg,hf⟩
    ·have:=order_all h7 h x hx
     exact⟨gt_trans this.1 hg,this.2⟩
   ·rw[if_neg hg] at h
    exact absurd h (by decide)
  ·rw[if_neg hf] at h
   exact absurd h hf
theorem sEq_eq {a b:ByteArray} (h:sEq a b=true):a=b:=by
 unfold sEq at h
 have h':=beq_iff_eq.1 h
 rw[Lib.toList_data,Lib.toList_data] at h'
 exact Go.WideShapes.bytes_inj h'
end Go.Proofs.YtedpiamfpbdhoaaDoor
namespace Go.Proofs.YtedpiamfpbdhoaaDoor
def outs (p:Nat→Bool):Nat→Nat
 |0=>0
 |n+1=>outs p n+(if p n=true then 0 else 1)
theorem outs_n {p:Nat→Bool}:∀n,outs p n≤n
 |0=>Nat.le_refl _
 |n+1=>by
  have:=outs_n (p:=p) n
  unfold outs
  split <;> omega
theorem outs_le {p q:Nat→Bool} (h:∀i,p i=true→q i=true):∀n,outs q n≤outs p n
 |0=>Nat.le_refl _
 |n+1=>by
  have:=outs_le h n
  unfold outs
  by_cases hp:p n=true
  ·rw[if_pos hp,if_pos (h n hp)]; omega
  ·rw[if_neg hp]
   split <;> omega
theorem outs_lt {p q:Nat→Bool} (h:∀i,p i=true→q i=true) {k:Nat} (hp:p k=false) (hq:q k=true):∀{n},k<n→outs q n+1≤outs p n
 |0,hk=>absurd hk (by omega)
 |n+1,hk=>by
  unfold outs
  by_cases hkn:k=n
  ·subst hkn
   have:=outs_le h k
   rw[if_pos hq,if_neg (by rw[hp]; simp)]; omega
  ·have:=outs_lt h hp hq (n:=n) (by omega)
   by_cases hp:p n=true
   ·rw[if_pos hp,if_pos (h n hp)]; omega
   ·rw[if_neg hp]
    split <;> omega
def inL (m:List Nat) (i:Nat):Bool:=m.contains i
theorem inL_iff {m:List Nat} {i:Nat}:inL m i=true↔i∈m:=by simp[inL]
theorem inL_not {m:List Nat} {i:Nat}:inL m i=false↔i ∉ m:=by simp[inL]
theorem inL_cons {m:List Nat} {i k:Nat}:inL (k::m) i=(decide (i=k)||inL m i):=by
 unfold inL
 rw[List.contains_cons]
 rfl
inductive Plus (n:Nat) (E:Nat→List Nat):Nat→Nat→Prop
 |one {i j:Nat}:j∈E i→j<n→Plus n E i j
 |more {i j k:Nat}:j∈E i→j<n→Plus n E j k→Plus n E i k
theorem Plus.lt {n:Nat} {E:Nat→List Nat} {i j:Nat} (h:Plus n E i j):j<n:=by
 induction h with
 |one _ h=>exact h
 |more _ _ _ h=>exact h
theorem Plus.trans {n:Nat} {E:Nat→List Nat} {i j k:Nat} (h:Plus n E i j) (h2:Plus n E j k):Plus n E i k:=by
 induction h with
 |one h1 h3=>exact .more h1 h3 h2
 |more h1 h3 _ ih=>exact .more h1 h3 (ih h2)
def vis (n:Nat) (E:Nat→List Nat):Nat→List Nat→List Nat→List Nat
 |0,_,m=>m
 |f+1,todo,m=>todo.foldl (fun m j=>if (decide (n≤j)||inL m j)=true then m else vis n E f (E j) (j::m)) m
theorem vis_nil {n:Nat} {E:Nat→List Nat} {f:Nat} {m:List Nat}:vis n E f [] m=m:=by
 cases f <;> rfl
theorem vis_skip {n:Nat} {E:Nat→List Nat} {f j:Nat} {r m:List Nat} (h:(decide (n≤j)||inL m j)=true):vis n E f (j::r) m=vis n E f r m:=by
 cases f with
 |zero=>rfl
 |succ f=>unfold vis; rw[List.foldl_cons,if_pos h]
theorem vis_go {n:Nat} {E:Nat→List Nat} {f j:Nat} {r m:List Nat} (h:(decide (n≤j)||inL m j)=false):vis n E (f+1) (j::r) m=vis n E (f+1) r (vis n E f (E j) (j::m)):=by
 rw[vis,List.foldl_cons,if_neg (by rw[h]; simp),vis]
theorem vis_sub {n:Nat} {E:Nat→List Nat}:∀(f:Nat) (todo m:List Nat) (x:Nat),x∈m→x∈vis n E f todo m
 |0,_,_,_,h=>h
 |f+1,[],_,_,h=>h
 |f+1,j::r,m,x,h=>by
  cases hj:(decide (n≤j)||inL m j) with
  |true=>rw[vis_skip hj]; exact vis_sub (f+1) r m x h
  |false=>rw[vis_go hj]; exact vis_sub (f+1) r _ x (vis_sub f _ _ x (List.mem_cons_of_mem _ h))
theorem vis_sound {n:Nat} {E:Nat→List Nat}:∀(f:Nat) (todo m:List Nat) (x:Nat),x∈vis n E f todo m→x∈m∨∃k∈todo,k<n∧(x=k∨Plus n E k x)
 |0,_,_,_,h=>.inl h
 |f+1,[],_,_,h=>.inl h
 |f+1,j::r,m,x,h=>by
  cases hj:(decide (n≤j)||inL m j) with
  |true=>
   rw[vis_skip hj] at h
   rcases vis_sound (f+1) r m x h with h|⟨k,hk,h⟩
   ·exact .inl h
   ·exact .inr ⟨k,List.mem_cons_of_mem _ hk,h⟩
  |false=>
   rw[vis_go hj] at h
   have hjn:j<n:=by
    have:decide (n≤j)=false:=by
     cases h1:decide (n≤j) <;> simp_all
    simpa using this
   rcases vis_sound (f+1) r _ x h with h|⟨k,hk,h⟩
   ·rcases vis_sound f _ _ x h with h|⟨k,hk,hkn,h⟩
    ·rcases List.mem_cons.1 h with h|h
     ·exact .inr ⟨j,by simp,hjn,.inl h⟩
     ·exact .inl h
    ·refine .inr ⟨j,by simp,hjn,.inr ?_⟩
     rcases h with rfl|h
     ·exact .one hk hkn
     ·exact .more hk hkn h
   ·exact .inr ⟨k,List.mem_cons_of_mem _ hk,h⟩
theorem vis_full {n:Nat} {E:Nat→List Nat}:∀(f:Nat) (todo m:List Nat),outs (inL m) n<f→(∀k∈todo,k<n→k∈vis n E f todo m)∧∀j∈vis n E f todo m,j ∉ m→∀k∈E j,k<n→k∈vis n E f todo m
 |0,_,_,h=>absurd h (by omega)
 |f+1,[],m,h=>by
  rw[vis_nil]
  exact⟨fun k hk=>(by cases hk),fun j hj hn=>absurd hj hn⟩
 |f+1,j::r,m,h=>by
  cases hj:(decide (n≤j)||inL m j) with
  |true=>
   obtain⟨h1,h2⟩:=vis_full (n:=n) (E:=E) (f+1) r m h
   rw[vis_skip hj]
   refine⟨fun k hk hkn=>?_,h2⟩
   rcases List.mem_cons.1 hk with rfl|hk
   ·refine vis_sub _ _ _ _ (inL_iff.1 ?_)
    have:decide (n≤k)=false:=by simpa using hkn
    rw[this] at hj
    simpa using hj
   ·exact h1 k hk hkn
  |false=>
   rw[vis_go hj]
   have hjn:j<n:=by
    have:decide (n≤j)=false:=by
     cases h1:decide (n≤j) <;> simp_all
    simpa using this
   have hjm:inL m j=false:=by
    cases h1:inL m j <;> simp_all
   have hsub:∀(m':List Nat),(∀x∈m,x∈m')→j∈m'→outs (inL m') n+1≤outs (inL m) n:=fun m' hs hm'=>
    outs_lt (p:=inL m) (q:=inL m') (fun i hi=>inL_iff.2 (hs i (inL_iff.1 hi))) hjm (inL_iff.2 hm') hjn
   have ho1:=hsub (j::m) (fun x hx=>List.mem_cons_of_mem _ hx) (by simp)
   obtain⟨a1,a2⟩:=vis_full (n:=n) (E:=E) f (E j) (j::m) (by omega)
   have hs1:∀x∈j::m,x∈vis n E f (E j) (j::m):=fun x hx=>vis_sub _ _ _ _ hx
   have ho2:=hsub (vis n E f (E j) (j::m)) (fun x hx=>hs1 x (List.mem_cons_of_mem _ hx)) (hs1 j (by simp))
   obtain⟨b1,b2⟩:=vis_full (n:=n) (E:=E) (f+1) r (vis n E f (E j) (j::m)) (by omega)
   have hs2:∀x∈vis n E f (E j) (j::m),x∈vis n E (f+1) r (vis n E f (E j) (j::m)):=fun x hx=>vis_sub _ _ _ _ hx
   refine⟨fun k hk hkn=>?_,fun x hx hxm k hk hkn=>?_⟩
   ·rcases List.mem_cons.1 hk with rfl|hk
    ·exact hs2 _ (hs1 _ (by simp))
    ·exact b1 k hk hkn
   ·by_cases hx1:x∈vis n E f (E j) (j::m)
    ·by_cases hxj:x=j
     ·subst hxj
      exact hs2 _ (a1 k hk hkn)
     ·refine hs2 _ (a2 x hx1 ?_ k hk hkn)
      intro hc
      rcases List.mem_cons.1 hc with hc|hc
      ·exact hxj hc
      ·exact hxm hc
    ·exact b2 x hx hx1 k hk hkn
def reachL (n:Nat) (E:Nat→List Nat) (i:Nat):List Nat:=vis n E (n+1) (E i) []
theorem reach_iff {n:Nat} {E:Nat→List Nat} {i j:Nat}:j∈reachL n E i↔Plus n E i j:=by
 constructor
 ·intro h
  rcases vis_sound _ _ _ _ h with h|⟨k,hk,hkn,rfl|h⟩
  ·cases h
  ·exact .one hk hkn
  ·exact .more hk hkn h
 ·intro h
  obtain⟨h1,h2⟩:=vis_full (n:=n) (E:=E) (n+1) (E i) [] (Nat.lt_succ_of_le (outs_n n))
  have:∀{a b:Nat},Plus n E a b→(∀k∈E a,k<n→k∈reachL n E i)→b∈reachL n E i:=by
   intro a b hp
   induction hp with
   |one ha hn=>exact fun hc=>hc _ ha hn
   |more ha hn _ ih=>exact fun hc=>ih (h2 _ (hc _ ha hn) (by simp))
  exact this h h1
def rdB (n:Nat) (E:Nat→List Nat) (i:Nat):Bool:=inL (reachL n E i) i
theorem rd_iff {n:Nat} {E:Nat→List Nat} {i:Nat}:rdB n E i=true↔Plus n E i i:=inL_iff.trans reach_iff
def rdyB (n:Nat) (E:Nat→List Nat) (rd:Nat→Bool) (out:List Nat) (i:Nat):Bool:=!(rd i||inL out i)&&(E i).all fun j=>decide (n≤j)||(rd j||inL out j)
def nxt (n:Nat) (E:Nat→List Nat) (rd:Nat→Bool) (out:List Nat):Option Nat:=(List.range n).find? (rdyB n E rd out)
def ordP (n:Nat) (E:Nat→List Nat) (rd:Nat→Bool):Nat→List Nat→List Nat
 |0,out=>out
 |f+1,out=>match nxt n E rd out with
  |none=>out
  |some i=>ordP n E rd f (i::out)
theorem ord_none {n:Nat} {E:Nat→List Nat} {rd:Nat→Bool} {out:List Nat} (h:nxt n E rd out=none):∀f,ordP n E rd f out=out
 |0=>rfl
 |f+1=>by show (match nxt n E rd out with|none=>out|some i=>ordP n E rd f (i::out))=out; rw[h]
theorem ord_some {n:Nat} {E:Nat→List Nat} {rd:Nat→Bool} {out:List Nat} {i:Nat} (h:nxt n E rd out=some i) (f:Nat):ordP n E rd (f+1) out=ordP n E rd f (i::out):=by
 show (match nxt n E rd out with|none=>out|some i=>ordP n E rd f (i::out))=_; rw[h]
theorem nxt_some {n:Nat} {E:Nat→List Nat} {rd:Nat→Bool} {out:List Nat} {i:Nat} (h:nxt n E rd out=some i):i<n∧rdyB n E rd out i=true:=
 ⟨List.mem_range.1 (List.mem_of_find?_eq_some h),List.find?_some h⟩
theorem nxt_none {n:Nat} {E:Nat→List Nat} {rd:Nat→Bool} {out:List Nat} (h:nxt n E rd out=none) {i:Nat} (hi:i<n):rdyB n E rd out i=false:=by
 have:=List.find?_eq_none.1 h i (List.mem_range.2 hi)
 simpa using this
theorem rdy_not {n:Nat} {E:Nat→List Nat} {rd:Nat→Bool} {out:List Nat} {i:Nat} (h:rdyB n E rd out i=true):rd i=false∧inL out i=false:=by
 unfold rdyB at h
 cases h1:rd i <;> cases h2:inL out i <;> simp_all
theorem outs_told {n:Nat} {out:List Nat} {i:Nat} (hi:i<n) (h:inL out i=false):outs (inL (i::out)) n+1≤outs (inL out) n:=
 outs_lt (fun j hj=>by rw[inL_cons,hj]; simp) h (by rw[inL_cons]; simp) hi
def ordAll (n:Nat) (E:Nat→List Nat) (rd:Nat→Bool):List Nat:=ordP n E rd n []
end Go.Proofs.YtedpiamfpbdhoaaDoor
namespace Go.Proofs.YtedpiamfpbdhoaaDoor
open Go.RowKit
structure Nd where
 name:ByteArray
 uses:List ByteArray
instance:Inhabited Nd:=⟨⟨.empty,[]⟩⟩
def NdAt (S:Nat→Prop) (w:World) (n:Nd) (b o:Nat):Prop:=StrAt w n.name b o∧∃v,w.cell? ⟨b,o+1,none⟩=some v∧SlAt S (StrAt w) 1 n.uses v
theorem NdAt.keep {S S':Nat→Prop} {w w':World} (hk:Keeps S S' w w') {n:Nd} {b o:Nat} (hb:S b) (h:NdAt S w n b o):NdAt S' w' n b o:=by
 obtain⟨h0,v,hv,hp⟩:=h
 exact⟨StrAt.keep hk hb h0,v,by rwa [hk.cell hb],strSl_keep hk hp⟩
theorem ndSl_keep {S S':Nat→Prop} {w w':World} (hk:Keeps S S' w w') {l:List Nd} {v:Value} (h:SlAt S (NdAt S w) 2 l v):SlAt S' (NdAt S' w') 2 l v:=h.imp hk.sub fun _ _ _ _ hb' h=>NdAt.keep hk hb' h
theorem nd_cells {S:Nat→Prop} {w:World} {n:Nd} {b o:Nat} (h:NdAt S w n b o):∃a cap,w.cell? ⟨b,o,none⟩=some (.string n.name)∧n.name.size≤maxLen∧w.cell? ⟨b,o+1,none⟩=some (.slice a n.uses.length cap)∧SlAt S (StrAt w) 1 n.uses (.slice a n.uses.length cap):=by
 obtain⟨⟨h0,h1⟩,v,hv,hp⟩:=h
 obtain⟨a,cap,rfl⟩:=hp.is
 exact⟨a,cap,h0,h1,hv,hp⟩
def ndOk (n:Nd):Bool:=identOk n.name&&(decide (n.uses.length≤24)&&n.uses.all identOk)
def ndFault (n:Nd):Int:=bad4 (ndOk n)
def ndsFault (l:List Nd):Int:=if 10<(l.length:Int) then 1 else orderFault ndFault Nd.name l ⟨#[]⟩
theorem find_any_iff {α:Type} {p:α→Bool}:∀{l:List α},findAt p l<l.length↔∃x∈l,p x=true
 |[]=>by simp[findAt]
 |x::r=>by
  unfold findAt
  by_cases h:p x=true
  ·rw[if_pos h]; simp[h]
  ·rw[if_neg h,List.length_cons,Nat.add_lt_add_iff_right,find_any_iff]
   simp[h]
theorem find_any_b {α:Type} {p:α→Bool} {l:List α}:decide (0≤idxOf p l)=l.any p:=by
 unfold idxOf
 rw[Bool.eq_iff_iff,List.any_eq_true]
 by_cases h:findAt p l<l.length
 ·rw[if_pos h]; simpa using find_any_iff.1 h
 ·rw[if_neg h]
  simp only[Int.reduceNeg,decide_eq_true_eq]
  refine⟨fun h=>absurd h (by decide),fun h'=>absurd (find_any_iff.2 h') h⟩
end Go.Proofs.YtedpiamfpbdhoaaDoor
namespace Go.Proofs.YtedpiamfpbdhoaaDoor
open Go.RowKit
def posN (l:List Nd) (u:ByteArray):Nat:=findAt (fun k:Nd=>sEq k.name u) l
def posI (l:List Nd) (u:ByteArray):Int:=idxOf (fun k:Nd=>sEq k.name u) l
theorem ndIs_any (B:Nat) (x s:ByteArray) (a:Option Addr) (n cap:Nat) (w:World) (hp:w.cell? ⟨B,0,none⟩=some (.string s)) :
  Calls Tryd.prog 41 #[.agg #[.string x,.slice a n cap],.pointer (some ⟨B,0,none⟩)] w fun e w'=>e=.returned (.bool (sEq x s))∧Below w.heap.size w w':=by
 have hlt:B<w.heap.size:=World.block_lt_of_cell? _ _ hp
 have HE:Hid (sEq x s=(x.toList==s.toList)):=rfl
 go_enter Tryd.func41,Tryd.ntmps41
 go_wp2
 go_ret
 exact⟨by rw[HE.out]; rfl,(Below.refl _ _).alloc (Nat.le_refl _) _⟩
set_option maxHeartbeats 2000000 in
theorem index_nd (S:Nat→Prop) (l:List Nd) (s:ByteArray) (B:Nat) (v:Value) (w:World) (hS:∀b,S b→b<w.heap.size) (hv:SlAt S (NdAt S w) 2 l v) (hp:w.cell? ⟨B,0,none⟩=some (.string s)) :
  Calls Tryd.prog 40 #[v,.func (.func 41) #[] #[.pointer (some ⟨B,0,none⟩)]] w fun e w'=>e=.returned (.int .i64 (posI l s))∧Below w.heap.size w w':=by
 have HV:=veil hv
 have hlen:=hv.len
 unfold maxLen at hlen
 obtain⟨a,cap,rfl⟩:=hv.is
 have HP:=veil hp
 have HBl:=veil (World.block_lt_of_cell? _ _ hp)
 clear hv hp
 go_enter Tryd.func40,Tryd.ntmps40
 go_wp2_with fail
 go_loopw [8] (fun i wr=>∃j:Nat,j≤l.length∧i=.int .i64 j∧findAt (fun k:Nd=>sEq k.name s) l=j+findAt (fun k:Nd=>sEq k.name s) (l.drop j)∧Below w.heap.size w wr) (fun i _=>l.length - (intOf i).toNat)
 case atStart=>exact⟨0,Nat.zero_le _,rfl,(Nat.zero_add _).symm,Below.refl _ _⟩
 case round=>
  obtain⟨j,hj,rfl,hq,hbl⟩:=hrel
  have HQ:=veil hq
  have HBW:=veil hbl
  clear hq
  by_cases hlt:j<l.length
  ·have hlt':(j:Int)<(l.length:Int):=by omega
   obtain⟨_,b,off,rfl,hb,hat⟩:=HV.out.at hlt
   have hbk:=hS b hb
   obtain⟨a1,cap1,c0,m0,c1,hu⟩:=nd_cells hat
   have d0:=(hbl.cell (p:=⟨b,off+j * 2,none⟩) hbk).trans c0
   have d1:=(hbl.cell (p:=⟨b,off+j * 2+1,none⟩) hbk).trans c1
   have HC:Hid (Calls Tryd.prog 41 #[.agg #[.string l[j].name,.slice a1 l[j].uses.length cap1],.pointer (some ⟨B,0,none⟩)] wr fun e w'=>e=.returned (.bool (sEq l[j].name s))∧Below wr.heap.size wr w'):=ndIs_any B _ s _ _ _ wr ((hbl.cell HBl.out).trans HP.out)
   have HYes:Hid (sEq l[j].name s=true→findAt (fun k:Nd=>sEq k.name s) l=j):=fun h=>by
    rw[HQ.out,find_yes hlt h]; rfl
   have HNo:Hid (sEq l[j].name s=false→findAt (fun k:Nd=>sEq k.name s) l=(j+1)+findAt (fun k:Nd=>sEq k.name s) (l.drop (j+1))):=fun h=>by
    rw[HQ.out,find_no hlt h]; omega
   clear c0 c1 m0 hu hat HV hbl HQ
   generalize l[j].name=x at *
   generalize l[j].uses.length=un at *
   cases hx:sEq x s with
   |true=>
    rw[hx] at HC
    have HI:Hid (posI l s=(j:Int)):=by
     show idxOf _ _=_
     unfold idxOf
     rw[HYes.out hx,if_pos hlt]
    clear HYes HNo hx
    go_wp2_with fail
    refine HC.out.mono ?_
    rintro e w1 ⟨rfl,hb1⟩
    have HB1:=veil (HBW.out.trans (hb1.mono HBW.out.size))
    clear hb1
    go_wp2_with fail
    go_ret
    exact⟨by rw[HI.out]; rfl,HB1.out⟩
   |false=>
    rw[hx] at HC
    have HN:=veil (HNo.out hx)
    clear HYes HNo hx
    go_wp2_with fail
    refine HC.out.mono ?_
    rintro e w1 ⟨rfl,hb1⟩
    have HB1:=veil (HBW.out.trans (hb1.mono HBW.out.size))
    clear hb1
    go_wp2_with fail
    exact⟨⟨j+1,by omega,by go_num,HN.out,HB1.out⟩,by simp[intOf]; omega⟩
  ·have hnl:¬(j:Int)<(l.length:Int):=by omega
   have HI:Hid (posI l s=-1):=by
    show idxOf _ _=_
    unfold idxOf
    rw[HQ.out,find_end (by omega),if_neg (by omega)]
   clear HV hbl HQ
   go_wp2_with fail
   go_ret
   exact⟨by rw[HI.out]; rfl,HBW.out⟩
theorem finder_made (a:Option Addr) (n cap:Nat) (w:World) :
  Calls Tryd.prog 19 #[.slice a n cap] w fun e w'=>e=.returned (.func (.func 39) #[] #[.pointer (some ⟨w.heap.size,0,none⟩)])∧w'=w.alloc (.cells #[.slice a n cap] 23):=by
 go_enter Tryd.func19,Tryd.ntmps19
 go_wp2
 go_ret
 exact⟨rfl,rfl⟩
set_option maxHeartbeats 1000000 in
theorem findN_any (S:Nat→Prop) (l:List Nd) (s:ByteArray) (B:Nat) (v:Value) (w:World) (hS:∀b,S b→b<w.heap.size) (hv:SlAt S (NdAt S w) 2 l v) (hp:w.cell? ⟨B,0,none⟩=some v) :
  Calls Tryd.prog 39 #[.string s,.pointer (some ⟨B,0,none⟩)] w fun e w'=>e=.returned (.int .i64 (posI l s))∧Below w.heap.size w w':=by
 obtain⟨a,cap,rfl⟩:=hv.is
 have HA:Hid (Below w.heap.size w (w.alloc (.cells #[.string s] 9))):=(Below.refl _ _).alloc (Nat.le_refl _) _
 have HC:Hid (Calls Tryd.prog 40 #[.slice a l.length cap,.func (.func 41) #[] #[.pointer (some ⟨w.heap.size,0,none⟩)]] (w.alloc (.cells #[.string s] 9)) fun e w'=>e=.returned (.int .i64 (posI l s))∧Below (w.alloc (.cells #[.string s] 9)).heap.size (w.alloc (.cells #[.string s] 9)) w'):=
  index_nd S l s w.heap.size _ _ (fun b hb=>Nat.lt_of_lt_of_le (hS b hb) HA.out.size) (ndSl_keep (Keeps.below HA.out hS) hv) (by simp[go_sem])
 have hlt:=World.block_lt_of_cell? _ _ hp
 clear hv
 go_enter Tryd.func39,Tryd.ntmps39
 go_wp2_with fail
 refine HC.out.mono ?_
 rintro e w1 ⟨rfl,hb1⟩
 have HB1:=veil (HA.out.trans (hb1.mono (by simp)))
 clear hb1
 go_wp2_with fail
 go_ret
 exact⟨rfl,HB1.out⟩
end Go.Proofs.YtedpiamfpbdhoaaDoor
namespace Go.Proofs.YtedpiamfpbdhoaaDoor
open Go.RowKit
def grE (l:List Nd) (i:Nat):List Nat:=match l[i]? with
 |some d=>d.uses.map (posN l)
 |none=>[]
theorem grE_at {l:List Nd} {i:Nat} (h:i<l.length):grE l i=l[i].uses.map (posN l):=by
 unfold grE; rw[List.getElem?_eq_getElem h]
theorem posI_in {l:List Nd} {u:ByteArray} (h:posN l u<l.length):posI l u=(posN l u:Int):=if_pos h
theorem posI_out {l:List Nd} {u:ByteArray} (h:¬posN l u<l.length):posI l u=-1:=if_neg h
abbrev fndN (gB:Nat):Value:=.func (.func 39) #[] #[.pointer (some ⟨gB,0,none⟩)]
abbrev wlk (lB fB mB kB:Nat):Value:=.func (.func 62) #[] #[.pointer (some ⟨lB,0,none⟩),.pointer (some ⟨fB,0,none⟩),.pointer (some ⟨mB,0,none⟩),.pointer (some ⟨kB,0,none⟩)]
structure GEnv (w0:World) (lB fB mB kB aB gB:Nat) (lv:Value) (n:Nat) (met:List Nat) (W:World):Prop where
 below:Below w0.heap.size w0 W
 lc:W.cell? ⟨lB,0,none⟩=some lv
 fc:W.cell? ⟨fB,0,none⟩=some (fndN gB)
 mc:W.cell? ⟨mB,0,none⟩=some (.slice (some ⟨aB,0,none⟩) n n)
 kc:W.cell? ⟨kB,0,none⟩=some (wlk lB fB mB kB)
 arr:∀i,i<n→W.cell? ⟨aB,i,none⟩=some (.bool (inL met i))∧W.frozen? ⟨aB,i,none⟩=false
 low:w0.heap.size≤aB
 ne:aB≠lB∧aB≠fB∧aB≠mB∧aB≠kB
theorem GEnv.keep {w0:World} {lB fB mB kB aB gB:Nat} {lv:Value} {n:Nat} {met:List Nat} {W W':World} (h:GEnv w0 lB fB mB kB aB gB lv n met W) (hb:Below W.heap.size W W'):GEnv w0 lB fB mB kB aB gB lv n met W':=by
 have hk:∀(a:Addr) (v:Value),W.cell? a=some v→W'.cell? a=some v:=fun a v hv=>(hb.cell (World.block_lt_of_cell? _ _ hv)).trans hv
 refine⟨h.below.trans (hb.mono h.below.size),hk _ _ h.lc,hk _ _ h.fc,hk _ _ h.mc,hk _ _ h.kc,fun i hi=>?_,h.low,h.ne⟩
 obtain⟨h1,h2⟩:=h.arr i hi
 exact⟨hk _ _ h1,(hb.frozen (World.block_lt_of_cell? _ _ h1)).trans h2⟩
theorem GEnv.meet {w0:World} {lB fB mB kB aB gB:Nat} {lv:Value} {n:Nat} {met:List Nat} {W:World} (h:GEnv w0 lB fB mB kB aB gB lv n met W) {k:Nat} (hk:k<n):GEnv w0 lB fB mB kB aB gB lv n (k::met) (W.setCell ⟨aB,k,none⟩ (.bool true)):=by
 obtain⟨n1,n2,n3,n4⟩:=h.ne
 refine⟨h.below.setCell h.low _,?_,?_,?_,?_,fun i hi=>⟨?_,?_⟩,h.low,h.ne⟩
 ·rw[World.cell?_setCell_far _ _ _ _ n1]; exact h.lc
 ·rw[World.cell?_setCell_far _ _ _ _ n2]; exact h.fc
 ·rw[World.cell?_setCell_far _ _ _ _ n3]; exact h.mc
 ·rw[World.cell?_setCell_far _ _ _ _ n4]; exact h.kc
 ·obtain⟨h1,h2⟩:=h.arr i hi
  obtain⟨h3,_⟩:=h.arr k hk
  by_cases hik:i=k
  ·subst hik
   rw[World.cell?_setCell_same (h:=h3),inL_cons]
   simp
  ·rw[World.cell?_setCell_other (h:=by intro e; injection e with _ e; exact hik e.symm),h1,inL_cons]
   simp[hik]
 ·obtain⟨_,h2⟩:=h.arr i hi
  rw[World.frozen?_setCell]; exact h2
set_option maxHeartbeats 4000000 in
theorem walk_step (w0:World) (S:Nat→Prop) (hS:∀b,S b→b<w0.heap.size) (l:List Nd) (la:Option Addr) (lc:Nat) (hl:SlAt S (NdAt S w0) 2 l (.slice la l.length lc)) (lB fB mB kB aB gB:Nat) (hg:w0.cell? ⟨gB,0,none⟩=some (.slice la l.length lc)) (u:Nat)
  (ih:∀(met:List Nat),outs (inL met) l.length<u→∀(k:Nat),k<l.length→∀W,GEnv w0 lB fB mB kB aB gB (.slice la l.length lc) l.length met W→
   Calls Tryd.prog 62 #[.int .i64 k,.pointer (some ⟨lB,0,none⟩),.pointer (some ⟨fB,0,none⟩),.pointer (some ⟨mB,0,none⟩),.pointer (some ⟨kB,0,none⟩)] W fun e w'=>e=.returned (.tuple #[])∧GEnv w0 lB fB mB kB aB gB (.slice la l.length lc) l.length (vis l.length (grE l) u (grE l k) met) w')
  (met:List Nat) (ho:outs (inL met) l.length<u+1) (k:Nat) (hk:k<l.length) (W:World) (henv:GEnv w0 lB fB mB kB aB gB (.slice la l.length lc) l.length met W) :
  Calls Tryd.prog 62 #[.int .i64 k,.pointer (some ⟨lB,0,none⟩),.pointer (some ⟨fB,0,none⟩),.pointer (some ⟨mB,0,none⟩),.pointer (some ⟨kB,0,none⟩)] W fun e w'=>e=.returned (.tuple #[])∧GEnv w0 lB fB mB kB aB gB (.slice la l.length lc) l.length (vis l.length (grE l) (u+1) (grE l k) met) w':=by
 have HL:=veil hl
 have HG:=veil hg
 have HIH:=veil ih
 have HEnv:=veil henv
 have c0:=henv.lc
 have hlen:=hl.len
 unfold maxLen at hlen
 obtain⟨_,b,off,rfl,hb,hat⟩:=hl.at hk
 obtain⟨a1,cap1,x0,m0,x1,hu⟩:=nd_cells hat
 have d1:=(henv.below.cell (p:=⟨b,off+k * 2+1,none⟩) (hS b hb)).trans x1
 have HU:=veil hu
 have hul:=hu.len
 unfold maxLen at hul
 have HO:=veil ho
 have HV:Hid (vis l.length (grE l) (u+1) (grE l k) met=vis l.length (grE l) (u+1) (l[k].uses.map (posN l)) met):=by show _=_; rw[grE_at hk]
 have hk':(k:Int)<(l.length:Int):=by omega
 have hk0:(0:Int)≤(k:Int):=by omega
 clear hl hg ih henv x0 x1 m0 hat hu ho
 generalize vis l.length (grE l) (u+1) (grE l k) met=R at *
 generalize l[k].uses=us at *
 go_enter Tryd.func62,Tryd.ntmps62
 go_wp2_with fail
 go_loopw [15] (fun i wr=>∃(j:Nat) (m:List Nat),j≤us.length∧i=.int .i64 j∧R=vis l.length (grE l) (u+1) ((us.drop j).map (posN l)) m∧outs (inL m) l.length<u+1∧GEnv w0 lB fB mB kB aB gB (.slice (some ⟨b,off,none⟩) l.length lc) l.length m wr) (fun i _=>us.length - (intOf i).toNat)
 case atStart=>exact⟨0,met,Nat.zero_le _,rfl,HV.out,HO.out,HEnv.out⟩
 case round=>
  clear HV HO HEnv c0 d1
  obtain⟨j,m,hj,rfl,hq,ho,henv⟩:=hrel
  have HQ:=veil hq
  have HEnv:=veil henv
  have c2:=henv.fc
  have c3:=henv.mc
  have c4:=henv.kc
  clear hq
  by_cases hjt:j<us.length
  ·have hjt':(j:Int)<(us.length:Int):=by omega
   have hj0:(0:Int)≤(j:Int):=by omega
   obtain⟨_,b2,off2,rfl,hb2,u0,n0⟩:=HU.out.at hjt
   rw[Nat.mul_one] at u0
   have e0:=(henv.below.cell (p:=⟨b2,off2+j,none⟩) (hS b2 hb2)).trans u0
   have HF:Hid (Calls Tryd.prog 39 #[.string us[j],.pointer (some ⟨gB,0,none⟩)] wr fun e w'=>e=.returned (.int .i64 (posI l us[j]))∧Below wr.heap.size wr w'):=
    findN_any S l us[j] gB _ wr (fun b hb=>Nat.lt_of_lt_of_le (hS b hb) henv.below.size) (ndSl_keep (Keeps.below henv.below hS) HL.out) ((henv.below.cell (World.block_lt_of_cell? _ _ HG.out)).trans HG.out)
   have HD:Hid (R=vis l.length (grE l) (u+1) (posN l us[j]::(us.drop (j+1)).map (posN l)) m):=by
    show _=_
    rw[HQ.out,List.drop_eq_getElem_cons hjt,List.map_cons]
   clear u0 n0 HQ
   have HArr:Hid (∀i,i<l.length→wr.cell? ⟨aB,i,none⟩=some (.bool (inL m i))∧wr.frozen? ⟨aB,i,none⟩=false):=henv.arr
   by_cases hp:posN l us[j]<l.length
   ·rw[posI_in hp] at HF
    generalize us[j]=x at *
    generalize posN l x=p at *
    obtain⟨g0,gf⟩:=HArr.out p hp
    have hgl:=World.block_lt_of_cell? _ _ g0
    have hp':(p:Int)<(l.length:Int):=by omega
    have hp0:¬(p:Int)<0:=by omega
    have hp1:(0:Int)≤(p:Int):=by omega
    have hpd:decide ((p:Int)<0)=false:=by simp
    cases hm:inL m p with
    |true=>
     rw[hm] at g0
     have HG0:=veil g0
     have HR:Hid (R=vis l.length (grE l) (u+1) ((us.drop (j+1)).map (posN l)) m):=by
      show _=_
      rw[HD.out,vis_skip (by rw[hm]; simp)]
     have HB3:Hid (∀w',Below wr.heap.size wr w'→(w'.cell? ⟨mB,0,none⟩=some (.slice (some ⟨aB,0,none⟩) l.length l.length)∧w'.cell? ⟨aB,p,none⟩=some (.bool true))∧GEnv w0 lB fB mB kB aB gB (.slice (some ⟨b,off,none⟩) l.length lc) l.length m w'):=fun w' h=>
      ⟨⟨(h.cell (World.block_lt_of_cell? _ _ c3)).trans c3,(h.cell (World.block_lt_of_cell? _ _ HG0.out)).trans HG0.out⟩,HEnv.out.keep h⟩
     clear HD HArr HEnv henv HIH HL HG HU c4 hm g0 gf
     go_wp2_with fail
     refine HF.out.mono ?_
     rintro e w1 ⟨rfl,hb1⟩
     obtain⟨⟨f1,f2⟩,hk3⟩:=HB3.out _ hb1
     have HK3:=veil hk3
     clear hb1 hk3 HB3
     go_wp2_with fail
     exact⟨⟨j+1,m,by omega,by go_num,HR.out,ho,HK3.out⟩,by simp[intOf]; omega⟩
    |false=>
     rw[hm] at g0
     have HG0:=veil g0
     have HGf:=veil gf
     have HR:Hid (R=vis l.length (grE l) (u+1) ((us.drop (j+1)).map (posN l)) (vis l.length (grE l) u (grE l p) (p::m))):=by
      show _=_
      rw[HD.out,vis_go (by rw[hm]; simp; omega)]
     have ho2:outs (inL (p::m)) l.length<u:=by
      have:=outs_told hp hm
      omega
     have HO3:Hid (outs (inL (vis l.length (grE l) u (grE l p) (p::m))) l.length<u+1):=by
      show _<_
      have:=outs_le (p:=inL (p::m)) (q:=inL (vis l.length (grE l) u (grE l p) (p::m))) (fun i hi=>inL_iff.2 (vis_sub _ _ _ _ (inL_iff.1 hi))) l.length
      omega
     have HW:=veil (HIH.out (p::m) ho2 p hp)
     have HB3:Hid (∀w',Below wr.heap.size wr w'→(w'.cell? ⟨mB,0,none⟩=some (.slice (some ⟨aB,0,none⟩) l.length l.length)∧w'.cell? ⟨aB,p,none⟩=some (.bool false)∧w'.frozen? ⟨aB,p,none⟩=false)∧(w'.setCell ⟨aB,p,none⟩ (.bool true)).cell? ⟨kB,0,none⟩=some (wlk lB fB mB kB)∧GEnv w0 lB fB mB kB aB gB (.slice (some ⟨b,off,none⟩) l.length lc) l.length (p::m) (w'.setCell ⟨aB,p,none⟩ (.bool true))):=fun w' h=>
      ⟨⟨(h.cell (World.block_lt_of_cell? _ _ c3)).trans c3,(h.cell (World.block_lt_of_cell? _ _ HG0.out)).trans HG0.out,(h.frozen (World.block_lt_of_cell? _ _ HG0.out)).trans HGf.out⟩,((HEnv.out.keep h).meet hp).kc,(HEnv.out.keep h).meet hp⟩
     clear HD HArr HEnv henv HIH HL HG HU c4 hm g0 gf ho2
     go_wp2_with fail
     refine HF.out.mono ?_
     rintro e w1 ⟨rfl,hb1⟩
     obtain⟨⟨f1,f2,f3⟩,f4,hk3⟩:=HB3.out _ hb1
     have HK3:=veil hk3
     clear hb1 hk3 HB3
     go_wp2_with fail
     refine (HW.out _ HK3.out).mono ?_
     rintro e w2 ⟨rfl,hk4⟩
     have HK4:=veil hk4
     clear hk4 HK3 HW
     go_wp2_with fail
     exact⟨⟨j+1,_,by omega,by go_num,HR.out,HO3.out,HK4.out⟩,by simp[intOf]; omega⟩
   ·rw[posI_out hp] at HF
    have HR:Hid (R=vis l.length (grE l) (u+1) ((us.drop (j+1)).map (posN l)) m):=by
     show _=_
     rw[HD.out,vis_skip (by simp; omega)]
    have HB3:Hid (∀w',Below wr.heap.size wr w'→GEnv w0 lB fB mB kB aB gB (.slice (some ⟨b,off,none⟩) l.length lc) l.length m w'):=fun w' h=>HEnv.out.keep h
    clear HD HArr HEnv henv HIH HL HG HU c3 c4 hp
    generalize us[j]=x at *
    go_wp2_with fail
    refine HF.out.mono ?_
    rintro e w1 ⟨rfl,hb1⟩
    have HK3:=veil (HB3.out _ hb1)
    clear hb1 HB3
    go_wp2_with fail
    exact⟨⟨j+1,m,by omega,by go_num,HR.out,ho,HK3.out⟩,by simp[intOf]; omega⟩
  ·have hnk:¬(j:Int)<(us.length:Int):=by omega
   have HR:Hid (R=m):=by show _=_; rw[HQ.out,List.drop_eq_nil_of_le (by omega)]; exact vis_nil
   clear HQ HIH HL HG HU henv c2 c3 c4
   go_wp2_with fail
   go_end0
   exact⟨rfl,by rw[HR.out]; exact HEnv.out⟩
theorem walk_any (w0:World) (S:Nat→Prop) (hS:∀b,S b→b<w0.heap.size) (l:List Nd) (la:Option Addr) (lc:Nat) (hl:SlAt S (NdAt S w0) 2 l (.slice la l.length lc)) (lB fB mB kB aB gB:Nat) (hg:w0.cell? ⟨gB,0,none⟩=some (.slice la l.length lc)):∀(u:Nat)
  (met:List Nat),outs (inL met) l.length<u→∀(k:Nat),k<l.length→∀W,GEnv w0 lB fB mB kB aB gB (.slice la l.length lc) l.length met W→
   Calls Tryd.prog 62 #[.int .i64 k,.pointer (some ⟨lB,0,none⟩),.pointer (some ⟨fB,0,none⟩),.pointer (some ⟨mB,0,none⟩),.pointer (some ⟨kB,0,none⟩)] W fun e w'=>e=.returned (.tuple #[])∧GEnv w0 lB fB mB kB aB gB (.slice la l.length lc) l.length (vis l.length (grE l) u (grE l k) met) w'
 |0,_,h,_,_,_,_=>absurd h (by omega)
 |u+1,met,ho,k,hk,W,henv=>walk_step w0 S hS l la lc hl lB fB mB kB aB gB hg u (walk_any w0 S hS l la lc hl lB fB mB kB aB gB hg u) met ho k hk W henv
end Go.Proofs.YtedpiamfpbdhoaaDoor
namespace Go.Proofs.YtedpiamfpbdhoaaDoor
open Go.RowKit
theorem boolN_info:(Tryd.prog.info? 4).map (fun i=>(i.zero,i.size,i.bytes))=some (some (.bool false),1,1):=by kernel_rfl
theorem made_boolsN (n:Nat) (hb:n≤281474976710656) :
  ∃arr:Array Value,(∀i,i<n→arr[i]? = some (.bool false))∧∀w,(Instr.makeSlice 50 (.int .i64 (n:Int)) (.int .i64 (n:Int))).run Tryd.prog w=.ok (.slice (some ⟨w.heap.size,0,none⟩) n n) (w.alloc (.cells arr 4)):=by
 obtain⟨i,h1,h2,h3,h4⟩:=info_parts boolN_info
 refine⟨madeCells (Value.bool false).cells n,fun j hj=>?_,fun w=>?_⟩
 ·simp[madeCells,Value.cells,hj]
  rw[Nat.mod_one]; rfl
 have hb':(i.bytes:Int) * (n:Int)≤281474976710656:=by
  rw[h4]
  omega
 have:=run_make (P:=Tryd.prog) w 50 4 i (.bool false) Tryd.underlying50 h1 h2 .i64 .i64 n n (by omega) (Int.le_refl _) hb' (by omega)
 rw[h3] at this
 simpa using this
structure BRow (w0:World) (B n:Nat) (p:Nat→Bool) (W:World):Prop where
 below:Below w0.heap.size w0 W
 low:w0.heap.size≤B
 top:B<W.heap.size
 arr:∀i,i<n→W.cell? ⟨B,i,none⟩=some (.bool (p i))∧W.frozen? ⟨B,i,none⟩=false
theorem BRow.keep {w0:World} {B n:Nat} {p:Nat→Bool} {W W':World} (h:BRow w0 B n p W) (hb:Below W.heap.size W W'):BRow w0 B n p W':=
 ⟨h.below.trans (hb.mono h.below.size),h.low,Nat.lt_of_lt_of_le h.top hb.size,fun i hi=>by
  obtain⟨h1,h2⟩:=h.arr i hi
  exact⟨(hb.cell (World.block_lt_of_cell? _ _ h1)).trans h1,(hb.frozen (World.block_lt_of_cell? _ _ h1)).trans h2⟩⟩
theorem BRow.put {w0:World} {B n:Nat} {p q:Nat→Bool} {W:World} (h:BRow w0 B n p W) {k:Nat} (hk:k<n) (hq:∀i,i<n→i≠k→q i=p i):BRow w0 B n q (W.setCell ⟨B,k,none⟩ (.bool (q k))):=
 ⟨h.below.setCell h.low _,h.low,by simpa [World.setCell] using h.top,fun i hi=>by
  obtain⟨h1,h2⟩:=h.arr i hi
  obtain⟨h3,_⟩:=h.arr k hk
  refine⟨?_,by rw[World.frozen?_setCell]; exact h2⟩
  by_cases hik:i=k
  ·subst hik
   rw[World.cell?_setCell_same (h:=h3)]
  ·rw[World.cell?_setCell_other (h:=by intro e; injection e with _ e; exact hik e.symm),h1,hq i hi hik]⟩
theorem BRow.same {w0:World} {B n:Nat} {p q:Nat→Bool} {W:World} (h:BRow w0 B n p W) (hq:∀i,i<n→q i=p i):BRow w0 B n q W:=
 ⟨h.below,h.low,h.top,fun i hi=>by rw[hq i hi]; exact h.arr i hi⟩
set_option maxHeartbeats 2000000 in
theorem reached_any (S:Nat→Prop) (l:List Nd) (la:Option Addr) (lc k gB:Nat) (w:World) (hS:∀b,S b→b<w.heap.size) (hl:SlAt S (NdAt S w) 2 l (.slice la l.length lc)) (hg:w.cell? ⟨gB,0,none⟩=some (.slice la l.length lc)) (hk:k<l.length) (hn:l.length≤1000) :
  Calls Tryd.prog 42 #[.slice la l.length lc,.int .i64 k,fndN gB] w fun e w'=>∃aB,e=.returned (.slice (some ⟨aB,0,none⟩) l.length l.length)∧BRow w aB l.length (inL (reachL l.length (grE l) k)) w':=by
 obtain⟨arr,harr,hmk⟩:=made_boolsN l.length (by omega)
 have HEnv:Hid (GEnv w w.heap.size (w.heap.size+1) (w.heap.size+1+1+1) (w.heap.size+1+1+1+1) (w.heap.size+1+1) gB (.slice la l.length lc) l.length []
   (((((w.alloc (.cells #[.slice la l.length lc] 23)).alloc (.cells #[fndN gB] 48)).alloc (.cells arr 4)).alloc (.cells #[.slice (some ⟨w.heap.size+1+1,0,none⟩) l.length l.length] 50)).alloc (.cells #[wlk w.heap.size (w.heap.size+1) (w.heap.size+1+1+1) (w.heap.size+1+1+1+1)] 88))):=by
  refine⟨((((((Below.refl _ _).alloc (Nat.le_refl _) _).alloc (by simp) _).alloc (by simp; omega) _).alloc (by simp; omega) _).alloc (by simp; omega) _),by simp[go_sem],by simp[go_sem],by simp[go_sem],by simp[go_sem],fun i hi=>⟨?_,by simp[go_sem]⟩,by omega,by omega,by omega,by omega,by omega⟩
  have:=harr i hi
  simp[go_sem,this,inL]
 have HW:=veil (walk_any w S hS l la lc hl w.heap.size (w.heap.size+1) (w.heap.size+1+1+1) (w.heap.size+1+1+1+1) (w.heap.size+1+1) gB hg (l.length+1) [] (Nat.lt_succ_of_le (outs_n _)) k hk)
 clear harr hl hg
 go_enter Tryd.func42,Tryd.ntmps42
 go_wp2_with fail
 refine (HW.out _ HEnv.out).mono ?_
 rintro e w1 ⟨rfl,henv⟩
 have c3:=henv.mc
 have HR:Hid (BRow w (w.heap.size+1+1) l.length (inL (reachL l.length (grE l) k)) w1):=⟨henv.below,henv.low,by
  obtain⟨h1,_⟩:=henv.arr k hk
  exact World.block_lt_of_cell? _ _ h1,henv.arr⟩
 clear henv HEnv HW
 go_wp2_with fail
 go_ret
 exact⟨_,rfl,HR.out⟩
set_option maxHeartbeats 2000000 in
theorem rounds_any (S:Nat→Prop) (l:List Nd) (la:Option Addr) (lc gB:Nat) (w:World) (hS:∀b,S b→b<w.heap.size) (hl:SlAt S (NdAt S w) 2 l (.slice la l.length lc)) (hg:w.cell? ⟨gB,0,none⟩=some (.slice la l.length lc)) (hn:l.length≤1000) :
  Calls Tryd.prog 20 #[.slice la l.length lc,fndN gB] w fun e w'=>∃rB,e=.returned (.slice (some ⟨rB,0,none⟩) l.length l.length)∧BRow w rB l.length (rdB l.length (grE l)) w':=by
 obtain⟨arr,harr,hmk⟩:=made_boolsN l.length (by omega)
 have HR0:Hid (BRow w w.heap.size l.length (fun i=>decide (i<0)&&rdB l.length (grE l) i) (w.alloc (.cells arr 4))):=
  ⟨(Below.refl _ _).alloc (Nat.le_refl _) _,Nat.le_refl _,by simp,fun i hi=>⟨by have:=harr i hi; simp[go_sem,this],by simp[go_sem]⟩⟩
 have HL:=veil hl
 have HG:=veil hg
 clear harr hl hg
 go_enter Tryd.func20,Tryd.ntmps20
 go_wp2_with fail
 go_loopw [12] (fun i wr=>∃j:Nat,j≤l.length∧i=.int .i64 j∧BRow w w.heap.size l.length (fun i=>decide (i<j)&&rdB l.length (grE l) i) wr) (fun i _=>l.length - (intOf i).toNat)
 case atStart=>exact⟨0,Nat.zero_le _,rfl,HR0.out⟩
 case round=>
  clear HR0 hmk
  obtain⟨j,hj,rfl,hrow⟩:=hrel
  have HRow:=veil hrow
  by_cases hjt:j<l.length
  ·have hjt':(j:Int)<(l.length:Int):=by omega
   have hj0:(0:Int)≤(j:Int):=by omega
   have HC:Hid (∀W,Below wr.heap.size wr W→Calls Tryd.prog 42 #[.slice la l.length lc,.int .i64 j,fndN gB] W fun e w'=>∃aB,e=.returned (.slice (some ⟨aB,0,none⟩) l.length l.length)∧BRow W aB l.length (inL (reachL l.length (grE l) j)) w'):=fun W hW=>by
    have hbW:=hrow.below.trans (hW.mono hrow.below.size)
    exact reached_any S l la lc j gB W (fun b hb=>Nat.lt_of_lt_of_le (hS b hb) hbW.size) (ndSl_keep (Keeps.below hbW hS) HL.out) ((hbW.cell (World.block_lt_of_cell? _ _ HG.out)).trans HG.out) hjt hn
   have HFin:Hid (∀W,Below wr.heap.size wr W→W.cell? ⟨w.heap.size,j,none⟩=some (.bool false)∧W.frozen? ⟨w.heap.size,j,none⟩=false∧BRow w w.heap.size l.length (fun i=>decide (i<j+1)&&rdB l.length (grE l) i) (W.setCell ⟨w.heap.size,j,none⟩ (.bool (rdB l.length (grE l) j)))):=fun W hW=>by
    have hk:=HRow.out.keep hW
    obtain⟨h1,h2⟩:=hk.arr j hjt
    refine⟨by rw[h1]; simp,h2,?_⟩
    have:=hk.put (q:=fun i=>decide (i<j+1)&&rdB l.length (grE l) i) hjt (fun i hi hne=>by
     show (decide (i<j+1)&&_)=(decide (i<j)&&_)
     have:decide (i<j+1)=decide (i<j):=by rw[decide_eq_decide]; omega
     rw[this])
    simpa using this
   have hrd:rdB l.length (grE l) j=inL (reachL l.length (grE l) j) j:=rfl
   have HRd:=veil hrd
   clear hrow HL HG hrd
   go_wp2_with fail
   refine (HC.out _ (Below.refl _ _)).mono ?_
   rintro e w1 ⟨aB,rfl,hr1⟩
   obtain⟨f1,_⟩:=hr1.arr j hjt
   rw[← HRd.out] at f1
   obtain⟨f2,f3,hf4⟩:=HFin.out _ hr1.below
   have HF4:=veil hf4
   clear hr1 hf4 HC HFin HRd
   go_wp2_with fail
   exact⟨⟨j+1,by omega,by go_num,HF4.out⟩,by simp[intOf]; omega⟩
  ·have hjn:¬(j:Int)<(l.length:Int):=by omega
   have HR:Hid (BRow w w.heap.size l.length (rdB l.length (grE l)) wr):=hrow.same (fun i hi=>by
    have:decide (i<j)=true:=by simp; omega
    rw[this,Bool.true_and])
   clear hrow HRow HL HG
   go_wp2_with fail
   go_ret
   exact⟨_,rfl,HR.out⟩
end Go.Proofs.YtedpiamfpbdhoaaDoor
namespace Go.Proofs.YtedpiamfpbdhoaaDoor
open Go.RowKit
def waitB (l:List Nd) (st:Nat→Bool) (s:ByteArray):Bool:=decide (posN l s<l.length)&&!st (posN l s)
structure NEnv (S:Nat→Prop) (l:List Nd) (lv:Value) (fB sB gB rB:Nat) (st:Nat→Bool) (W:World):Prop where
 sub:∀b,S b→b<W.heap.size
 sl:SlAt S (NdAt S W) 2 l lv
 gc:W.cell? ⟨gB,0,none⟩=some lv
 fc:W.cell? ⟨fB,0,none⟩=some (fndN gB)
 sc:W.cell? ⟨sB,0,none⟩=some (.slice (some ⟨rB,0,none⟩) l.length l.length)
 arr:∀i,i<l.length→W.cell? ⟨rB,i,none⟩=some (.bool (st i))
theorem NEnv.keep {S:Nat→Prop} {l:List Nd} {lv:Value} {fB sB gB rB:Nat} {st:Nat→Bool} {W W':World} (h:NEnv S l lv fB sB gB rB st W) (hb:Below W.heap.size W W'):NEnv S l lv fB sB gB rB st W':=by
 have hk:∀(a:Addr) (v:Value),W.cell? a=some v→W'.cell? a=some v:=fun a v hv=>(hb.cell (World.block_lt_of_cell? _ _ hv)).trans hv
 exact⟨fun b hb'=>Nat.lt_of_lt_of_le (h.sub b hb') hb.size,ndSl_keep (Keeps.below hb h.sub) h.sl,hk _ _ h.gc,hk _ _ h.fc,hk _ _ h.sc,fun i hi=>hk _ _ (h.arr i hi)⟩
set_option maxHeartbeats 2000000 in
theorem waits_any (S:Nat→Prop) (l:List Nd) (lv:Value) (fB sB gB rB:Nat) (st:Nat→Bool) (s:ByteArray) (w:World) (henv:NEnv S l lv fB sB gB rB st w) :
  Calls Tryd.prog 43 #[.string s,.pointer (some ⟨fB,0,none⟩),.pointer (some ⟨sB,0,none⟩)] w fun e w'=>e=.returned (.bool (waitB l st s))∧Below w.heap.size w w':=by
 have hf:=findN_any S l s gB lv w henv.sub henv.sl henv.gc
 have HF:=veil hf
 have c1:=henv.fc
 have HE:Hid (waitB l st s=(decide (posN l s<l.length)&&!st (posN l s))):=rfl
 have hlen:=henv.sl.len
 unfold maxLen at hlen
 by_cases hp:posN l s<l.length
 ·have h0:=henv.arr _ hp
  have HB3:Hid (∀w',Below w.heap.size w w'→w'.cell? ⟨sB,0,none⟩=some (.slice (some ⟨rB,0,none⟩) l.length l.length)∧w'.cell? ⟨rB,posN l s,none⟩=some (.bool (st (posN l s)))):=fun w' h=>
   ⟨(henv.keep h).sc,(henv.keep h).arr _ hp⟩
  have HE':Hid (waitB l st s=!st (posN l s)):=by show _=_; rw[HE.out]; simp[hp]
  rw[posI_in hp] at HF
  clear henv hf HE h0
  generalize waitB l st s=r at *
  generalize st (posN l s)=z at *
  generalize posN l s=p at *
  have hp':(p:Int)<(l.length:Int):=by omega
  have hp1:(0:Int)≤(p:Int):=by omega
  go_enter Tryd.func43,Tryd.ntmps43
  go_wp2_with fail
  refine HF.out.mono ?_
  rintro e w1 ⟨rfl,hb1⟩
  obtain⟨f1,f2⟩:=HB3.out _ hb1
  have HB1:=veil hb1
  clear hb1
  go_wp2_with fail
  go_ret
  exact⟨by rw[HE'.out]; rfl,HB1.out⟩
 ·have HE':Hid (waitB l st s=false):=by show _=_; rw[HE.out]; simp[hp]
  rw[posI_out hp] at HF
  clear henv hf HE
  generalize waitB l st s=r at *
  go_enter Tryd.func43,Tryd.ntmps43
  go_wp2_with fail
  refine HF.out.mono ?_
  rintro e w1 ⟨rfl,hb1⟩
  have HB1:=veil hb1
  clear hb1
  go_wp2_with fail
  go_ret
  exact⟨by rw[HE'.out]; rfl,HB1.out⟩
set_option maxHeartbeats 2000000 in
theorem index_wait (S:Nat→Prop) (l:List ByteArray) (v:Value) (w:World) (hS:∀b,S b→b<w.heap.size) (hv:SlAt S (StrAt w) 1 l v) (fB sB:Nat) (p:ByteArray→Bool) (R:World→Prop) (hR:R w) (hRk:∀W W',R W→Below W.heap.size W W'→R W') (hc:∀s∈l,∀W,R W→Calls Tryd.prog 43 #[.string s,.pointer (some ⟨fB,0,none⟩),.pointer (some ⟨sB,0,none⟩)] W fun e w'=>e=.returned (.bool (p s))∧Below W.heap.size W w') :
  Calls Tryd.prog 63 #[v,.func (.func 43) #[] #[.pointer (some ⟨fB,0,none⟩),.pointer (some ⟨sB,0,none⟩)]] w fun e w'=>e=.returned (.int .i64 (idxOf p l))∧Below w.heap.size w w':=by
 have HV:=veil hv
 have HRw:=veil hR
 have HRk:=veil hRk
 have HCc:=veil hc
 clear hR hRk hc
 have hlen:=hv.len
 unfold maxLen at hlen
 obtain⟨a,cap,rfl⟩:=hv.is
 clear hv
 go_enter Tryd.func63,Tryd.ntmps63
 go_wp2_with fail
 go_loopw [8] (fun i wr=>∃j:Nat,j≤l.length∧i=.int .i64 j∧findAt p l=j+findAt p (l.drop j)∧Below w.heap.size w wr) (fun i _=>l.length - (intOf i).toNat)
 case atStart=>exact⟨0,Nat.zero_le _,rfl,(Nat.zero_add _).symm,Below.refl _ _⟩
 case round=>
  obtain⟨j,hj,rfl,hq,hbl⟩:=hrel
  have HQ:=veil hq
  have HBW:=veil hbl
  clear hq
  by_cases hlt:j<l.length
  ·have hlt':(j:Int)<(l.length:Int):=by omega
   obtain⟨_,b,off,rfl,hb,a0,m0⟩:=HV.out.at hlt
   have hbk:=hS b hb
   rw[Nat.mul_one] at a0
   have d0:=(hbl.cell (p:=⟨b,off+j,none⟩) hbk).trans a0
   have HC:Hid (Calls Tryd.prog 43 #[.string l[j],.pointer (some ⟨fB,0,none⟩),.pointer (some ⟨sB,0,none⟩)] wr fun e w'=>e=.returned (.bool (p l[j]))∧Below wr.heap.size wr w'):=HCc.out _ (List.getElem_mem hlt) wr (HRk.out _ _ HRw.out hbl)
   have HYes:Hid (p l[j]=true→findAt p l=j):=fun h=>by
    rw[HQ.out,find_yes hlt h]; rfl
   have HNo:Hid (p l[j]=false→findAt p l=(j+1)+findAt p (l.drop (j+1))):=fun h=>by
    rw[HQ.out,find_no hlt h]; omega
   clear a0 m0 HV hbl HQ HCc HRk HRw
   generalize l[j]=x at *
   cases hx:p x with
   |true=>
    rw[hx] at HC
    have HI:Hid (idxOf p l=(j:Int)):=by
     show _=_
     unfold idxOf
     rw[HYes.out hx,if_pos hlt]
    clear HYes HNo hx
    go_wp2_with fail
    refine HC.out.mono ?_
    rintro e w1 ⟨rfl,hb1⟩
    have HB1:=veil (HBW.out.trans (hb1.mono HBW.out.size))
    clear hb1
    go_wp2_with fail
    go_ret
    exact⟨by rw[HI.out]; rfl,HB1.out⟩
   |false=>
    rw[hx] at HC
    have HN:=veil (HNo.out hx)
    clear HYes HNo hx
    go_wp2_with fail
    refine HC.out.mono ?_
    rintro e w1 ⟨rfl,hb1⟩
    have HB1:=veil (HBW.out.trans (hb1.mono HBW.out.size))
    clear hb1
    go_wp2_with fail
    exact⟨⟨j+1,by omega,by go_num,HN.out,HB1.out⟩,by simp[intOf]; omega⟩
  ·have hnl:¬(j:Int)<(l.length:Int):=by omega
   have HI:Hid (idxOf p l=-1):=by
    show _=_
    unfold idxOf
    rw[HQ.out,find_end (by omega),if_neg (by omega)]
   clear HV hbl HQ
   go_wp2_with fail
   go_ret
   exact⟨by rw[HI.out]; rfl,HBW.out⟩
theorem contains_wait (S:Nat→Prop) (l:List ByteArray) (v:Value) (w:World) (hS:∀b,S b→b<w.heap.size) (hv:SlAt S (StrAt w) 1 l v) (fB sB:Nat) (p:ByteArray→Bool) (R:World→Prop) (hR:R w) (hRk:∀W W',R W→Below W.heap.size W W'→R W') (hc:∀s∈l,∀W,R W→Calls Tryd.prog 43 #[.string s,.pointer (some ⟨fB,0,none⟩),.pointer (some ⟨sB,0,none⟩)] W fun e w'=>e=.returned (.bool (p s))∧Below W.heap.size W w') :
  Calls Tryd.prog 44 #[v,.func (.func 43) #[] #[.pointer (some ⟨fB,0,none⟩),.pointer (some ⟨sB,0,none⟩)]] w fun e w'=>e=.returned (.bool (l.any p))∧Below w.heap.size w w':=by
 have HC:Hid (Calls Tryd.prog 63 #[v,.func (.func 43) #[] #[.pointer (some ⟨fB,0,none⟩),.pointer (some ⟨sB,0,none⟩)]] w fun e w'=>e=.returned (.int .i64 (idxOf p l))∧Below w.heap.size w w'):=index_wait S l v w hS hv fB sB p R hR hRk hc
 have HE:=veil (find_any_b (p:=p) (l:=l))
 obtain⟨a,cap,rfl⟩:=hv.is
 clear hv hR hRk hc
 generalize idxOf p l=r at *
 go_enter Tryd.func44,Tryd.ntmps44
 go_wp2_with fail
 refine HC.out.mono ?_
 rintro e w1 ⟨rfl,hb1⟩
 have HB1:=veil hb1
 clear hb1
 go_wp2_with fail
 go_ret
 exact⟨by rw[← HE.out]; rfl,HB1.out⟩
def rdyS (n:Nat) (E:Nat→List Nat) (st:Nat→Bool) (i:Nat):Bool:=!st i&&(E i).all fun j=>decide (n≤j)||st j
def nxtI (n:Nat) (E:Nat→List Nat) (st:Nat→Bool):Int:=match (List.range n).find? (rdyS n E st) with
 |some i=>(i:Int)
 |none=>-1
theorem nxtI_at {n:Nat} {E:Nat→List Nat} {st:Nat→Bool} {i:Nat} (hi:i<n) (h:rdyS n E st i=true) (hb:∀k,k<i→rdyS n E st k=false):nxtI n E st=(i:Int):=by
 unfold nxtI
 have:(List.range n).find? (rdyS n E st)=some i:=by
  rw[List.find?_range_eq_some]
  exact⟨h,List.mem_range.2 hi,fun k hk=>by rw[hb k hk]; rfl⟩
 rw[this]
theorem nxtI_none {n:Nat} {E:Nat→List Nat} {st:Nat→Bool} (hb:∀k,k<n→rdyS n E st k=false):nxtI n E st=-1:=by
 unfold nxtI
 have:(List.range n).find? (rdyS n E st)=none:=by
  rw[List.find?_eq_none]
  intro k hk
  rw[hb k (List.mem_range.1 hk)]; simp
 rw[this]
theorem all_wait {l:List Nd} {st:Nat→Bool} {us:List ByteArray}:((us.map (posN l)).all fun j=>decide (l.length≤j)||st j)=!us.any (waitB l st):=by
 induction us with
 |nil=>rfl
 |cons u r ih=>
  rw[List.map_cons,List.all_cons,List.any_cons,ih,Bool.not_or]
  congr 1
  unfold waitB
  by_cases h:posN l u<l.length
  ·have:¬l.length≤posN l u:=by omega
   simp[h,this]
  ·have:l.length≤posN l u:=by omega
   simp[h,this]
set_option maxHeartbeats 4000000 in
theorem next_any (S:Nat→Prop) (l:List Nd) (la:Option Addr) (lc gB rB:Nat) (st:Nat→Bool) (w:World) (hS:∀b,S b→b<w.heap.size) (hl:SlAt S (NdAt S w) 2 l (.slice la l.length lc)) (hg:w.cell? ⟨gB,0,none⟩=some (.slice la l.length lc)) (ha:∀i,i<l.length→w.cell? ⟨rB,i,none⟩=some (.bool (st i))) :
  Calls Tryd.prog 22 #[.slice la l.length lc,.slice (some ⟨rB,0,none⟩) l.length l.length,fndN gB] w fun e w'=>e=.returned (.int .i64 (nxtI l.length (grE l) st))∧Below w.heap.size w w':=by
 have hlen:=hl.len
 unfold maxLen at hlen
 obtain⟨w2,hw2⟩:∃w2,w2=(w.alloc (.cells #[.slice (some ⟨rB,0,none⟩) l.length l.length] 50)).alloc (.cells #[fndN gB] 48):=⟨_,rfl⟩
 have hb2:Below w.heap.size w w2:=by rw[hw2]; exact ((Below.refl _ _).alloc (Nat.le_refl _) _).alloc (by simp) _
 have henv:NEnv S l (.slice la l.length lc) (w.heap.size+1) w.heap.size gB rB st w2:=by
  have hk:∀(a:Addr) (v:Value),w.cell? a=some v→w2.cell? a=some v:=fun a v hv=>(hb2.cell (World.block_lt_of_cell? _ _ hv)).trans hv
  refine⟨fun b hb=>Nat.lt_of_lt_of_le (hS b hb) hb2.size,ndSl_keep (Keeps.below hb2 hS) hl,hk _ _ hg,?_,?_,fun i hi=>hk _ _ (ha i hi)⟩
  ·rw[hw2]; simp[go_sem]
  ·rw[hw2]; simp[go_sem]
 have HB2:=veil hb2
 have HEnv:=veil henv
 have HW2:=veil hw2.symm
 clear hl hg ha hb2 henv hw2 hS
 go_enter Tryd.func22,Tryd.ntmps22
 go_wp2_with fail
 rw[HW2.out]
 clear HW2
 go_loopw [13] (fun i wr=>∃j:Nat,j≤l.length∧i=.int .i64 j∧(∀k,k<j→rdyS l.length (grE l) st k=false)∧Below w2.heap.size w2 wr) (fun i _=>l.length - (intOf i).toNat)
 case atStart=>exact⟨0,Nat.zero_le _,rfl,fun k hk=>absurd hk (by omega),Below.refl _ _⟩
 case round=>
  obtain⟨j,hj,rfl,hno,hbl⟩:=hrel
  have HNo:=veil hno
  have HBl:=veil hbl
  clear hno
  by_cases hjt:j<l.length
  ·have hjt':(j:Int)<(l.length:Int):=by omega
   have hj0:(0:Int)≤(j:Int):=by omega
   have henv:=HEnv.out.keep hbl
   obtain⟨_,b,off,rfl,hb,hat⟩:=henv.sl.at hjt
   obtain⟨a1,cap1,c0,m0,c1,hu⟩:=nd_cells hat
   have s1:=henv.sc
   have g1:=henv.arr j hjt
   have hslt:=World.block_lt_of_cell? _ _ s1
   have hrlt:=World.block_lt_of_cell? _ _ g1
   have HYes:Hid (rdyS l.length (grE l) st j=true→nxtI l.length (grE l) st=(j:Int)):=fun h=>nxtI_at hjt h HNo.out
   have HOn:Hid (rdyS l.length (grE l) st j=false→∀k,k<j+1→rdyS l.length (grE l) st k=false):=fun h k hk=>by
    by_cases hkj:k=j
    ·rw[hkj]; exact h
    ·exact HNo.out k (by omega)
   have HBx:Hid (∀o W,Below (wr.alloc o).heap.size (wr.alloc o) W→Below w2.heap.size w2 W):=fun o W hW=>HBl.out.trans ((((Below.refl _ _).alloc (Nat.le_refl _) o).trans (hW.mono (by simp))).mono HBl.out.size)
   cases hst:st j with
   |true=>
    have hr:rdyS l.length (grE l) st j=false:=by unfold rdyS; rw[hst]; rfl
    have HN:=veil (HOn.out hr)
    have HBa:Hid (∀o,Below w2.heap.size w2 (wr.alloc o)):=fun o=>HBl.out.alloc HBl.out.size _
    rw[hst] at g1
    clear HYes HOn HNo hr hst hu hat m0 henv hbl HEnv
    go_wp2_with fail
    exact⟨⟨j+1,by omega,by go_num,HN.out,HBa.out _⟩,by simp[intOf]; omega⟩
   |false=>
    have HR:Hid (rdyS l.length (grE l) st j=!l[j].uses.any (waitB l st)):=by
     show _=_
     unfold rdyS
     rw[hst,grE_at hjt,all_wait]; rfl
    have HC:Hid (∀o,Calls Tryd.prog 44 #[.slice a1 l[j].uses.length cap1,.func (.func 43) #[] #[.pointer (some ⟨w.heap.size+1,0,none⟩),.pointer (some ⟨w.heap.size,0,none⟩)]] (wr.alloc o) fun e w'=>e=.returned (.bool (l[j].uses.any (waitB l st)))∧Below (wr.alloc o).heap.size (wr.alloc o) w'):=fun o=>by
     have hba:Below wr.heap.size wr (wr.alloc o):=(Below.refl _ _).alloc (Nat.le_refl _) o
     have he:=henv.keep hba
     exact contains_wait S _ _ _ he.sub (strSl_keep (Keeps.below hba henv.sub) hu) _ _ _ (NEnv S l (.slice (some ⟨b,off,none⟩) l.length lc) (w.heap.size+1) w.heap.size gB rB st) he (fun _ _ h hb=>h.keep hb) (fun s _ W hW=>waits_any S l _ _ _ gB rB st s W hW)
    rw[hst] at g1
    clear HNo hst hu hat m0 henv hbl HEnv
    generalize l[j].name=x at *
    generalize l[j].uses.length=un at *
    cases hz:l[j].uses.any (waitB l st) with
    |true=>
     rw[hz] at HC
     have HN:=veil (HOn.out (by rw[HR.out,hz]; rfl))
     clear HYes HOn HR hz
     go_wp2_with fail
     refine (HC.out _).mono ?_
     rintro e w3 ⟨rfl,hb3⟩
     have HB3:=veil (HBx.out _ _ hb3)
     clear hb3
     go_wp2_with fail
     exact⟨⟨j+1,by omega,by go_num,HN.out,HB3.out⟩,by simp[intOf]; omega⟩
    |false=>
     rw[hz] at HC
     have HN:=veil (HYes.out (by rw[HR.out,hz]; rfl))
     clear HYes HOn HR hz
     go_wp2_with fail
     refine (HC.out _).mono ?_
     rintro e w3 ⟨rfl,hb3⟩
     have HB3:=veil (HB2.out.trans ((HBx.out _ _ hb3).mono HB2.out.size))
     clear hb3
     go_wp2_with fail
     go_ret
     exact⟨by rw[HN.out]; rfl,HB3.out⟩
  ·have hjn:¬(j:Int)<(l.length:Int):=by omega
   have HR:=veil (nxtI_none (E:=grE l) (st:=st) (n:=l.length) (fun k hk=>HNo.out k (by omega)))
   have HB3:=veil (HB2.out.trans (hbl.mono HB2.out.size))
   clear HNo hbl HBl HEnv
   go_wp2_with fail
   go_ret
   exact⟨by rw[HR.out]; rfl,HB3.out⟩
end Go.Proofs.YtedpiamfpbdhoaaDoor
namespace Go.Proofs.YtedpiamfpbdhoaaDoor
open Go.RowKit
def txVals (l:List ByteArray):List Value:=l.map Value.string
theorem tx_snoc (l:List ByteArray) (x:ByteArray):txVals (l++[x])=txVals l++[.string x]:=by simp[txVals]
theorem tx_one (s:ByteArray):∀u∈([.string s]:List Value),u.oneCell'=true:=fun u hu=>by simp at hu; subst hu; rfl
theorem tx_new (w:World) (s:ByteArray):∀j u,([.string s]:List Value)[j]? = some u→(w.alloc (.cells #[.string s] 9)).cell? ((⟨w.heap.size,0,none⟩:Addr).add j)=some u:=fun j u h=>by
 match j,h with
 |0,h=>cases h; simp[go_sem,Addr.add]
theorem tx_row {w:World} {B:Nat} {v:Value} {l:List ByteArray} (h:w.ownsRow B 9 1 v l.length (txVals l)) (hl:l.length≤maxLen) (hs:∀t∈l,t.size≤maxLen):SlAt (fun b=>B≤b∧b<w.heap.size) (StrAt w) 1 l v:=by
 obtain⟨hx,⟨hv,hn⟩|⟨g,cap,cur,hv,hg,hh,h1,h2,h3,h4⟩⟩:=h
 ·subst hv
  exact⟨none,0,by rw[hn],⟨hl,by omega⟩,Or.inl hn⟩
 ·subst hv
  refine⟨_,cap,rfl,⟨hl,h1⟩,Or.inr ⟨g,0,rfl,⟨hg,?_⟩,RowAt.mk fun i hi=>?_⟩⟩
  ·rcases Nat.lt_or_ge g w.heap.size with h|h
   ·exact h
   ·rw[Array.getElem?_eq_none h] at hh
    cases hh
  ·have hc:∀j u,(txVals l)[j]? = some u→w.cell? ⟨g,j,none⟩=some u:=fun j u hj=>by
    rw[← h4] at hj
    have hj':j<l.length * 1:=by
     rcases Nat.lt_or_ge j (l.length * 1) with h|h
     ·exact h
     ·rw[List.getElem?_eq_none (by rw[List.length_take]; omega)] at hj
      cases hj
    rw[List.getElem?_take_of_lt hj'] at hj
    simpa [World.cell?,hh] using hj
   rw[Nat.zero_add,Nat.mul_one]
   exact⟨hc i _ (by simp[txVals,List.getElem?_eq_getElem hi]),hs _ (List.getElem_mem hi)⟩
theorem ownsTx_at {w:World} {B:Nat} {u:Value} {n:Nat} {xs:List Value} (h:w.ownsRow B 9 1 u n xs):∀j,u.ownBlock=some j→B≤j:=fun j hj=>by
 obtain⟨_,⟨hv,_⟩|⟨g,cap,cur,hv,hg,_⟩⟩:=h
 ·subst hv; cases hj
 ·subst hv
  have:g=j:=by simpa [Value.ownBlock] using hj
  omega
theorem ownsTx_later {w w':World} {B:Nat} {u:Value} {n:Nat} {xs:List Value} (h:w.ownsRow B 9 1 u n xs) (hb:Below w.heap.size w w'):w'.ownsRow B 9 1 u n xs:=by
 obtain⟨hx,⟨hv,hn⟩|⟨g,cap,cur,hv,hg,hh,h1⟩⟩:=h
 ·exact⟨hx,Or.inl ⟨hv,hn⟩⟩
 ·refine⟨hx,Or.inr ⟨g,cap,cur,hv,hg,?_,h1⟩⟩
  rw[hb.block g ?_]
  ·exact hh
  ·rcases Nat.lt_or_ge g w.heap.size with h|h
   ·exact h
   ·rw[Array.getElem?_eq_none h] at hh
    cases hh
end Go.Proofs.YtedpiamfpbdhoaaDoor
namespace Go.Proofs.YtedpiamfpbdhoaaDoor
open Go.RowKit
def nmN (l:List Nd) (i:Nat):ByteArray:=match l[i]? with
 |some d=>d.name
 |none=>⟨#[]⟩
theorem nmN_at {l:List Nd} {i:Nat} (h:i<l.length):nmN l i=l[i].name:=by
 unfold nmN; rw[List.getElem?_eq_getElem h]
def namL (l:List Nd) (p:Nat→Bool):Nat→List ByteArray
 |0=>[]
 |k+1=>namL l p k++(if p k=true then [nmN l k] else [])
theorem namL_le (l:List Nd) (p:Nat→Bool):∀k,(namL l p k).length≤k
 |0=>Nat.le_refl _
 |k+1=>by
  have:=namL_le l p k
  unfold namL
  rw[List.length_append]
  split <;> simp <;> omega
theorem namL_size {l:List Nd} {p:Nat→Bool} (h:∀d∈l,d.name.size≤maxLen):∀k,∀s∈namL l p k,s.size≤maxLen
 |0,s,hs=>by cases hs
 |k+1,s,hs=>by
  unfold namL at hs
  rcases List.mem_append.1 hs with hs|hs
  ·exact namL_size h k s hs
  ·split at hs
   ·simp at hs
    subst hs
    unfold nmN
    cases hk:l[k]? with
    |none=>exact Nat.zero_le _
    |some d=>exact h d (List.mem_of_getElem? hk)
   ·cases hs
theorem nameOf_any (x:ByteArray) (a:Option Addr) (n cap:Nat) (w:World) (hx:x.size≤281474976710656):Calls Tryd.prog 23 #[.agg #[.string x,.slice a n cap]] w fun e w'=>e=.returned (.string x)∧Below w.heap.size w w':=by
 have HA:Hid (Below w.heap.size w (w.alloc (.cells #[.string x,.slice a n cap] 27))):=(Below.refl _ _).alloc (Nat.le_refl _) _
 go_enter Tryd.func23,Tryd.ntmps23
 go_wp2_with fail
 refine (clone_kind x _ hx).mono ?_
 rintro e w1 ⟨rfl,hb⟩
 have HB:=veil (HA.out.trans (hb.mono (by simp)))
 clear hb
 go_wp2_with fail
 go_ret
 exact⟨rfl,HB.out⟩
set_option maxHeartbeats 4000000 in
theorem namesOf_any (S:Nat→Prop) (l:List Nd) (la:Option Addr) (lc rB:Nat) (st:Nat→Bool) (w:World) (hS:∀b,S b→b<w.heap.size) (hl:SlAt S (NdAt S w) 2 l (.slice la l.length lc)) (hn:l.length≤1000) (hx:∀d∈l,d.name.size≤281474976710656) (ha:∀i,i<l.length→w.cell? ⟨rB,i,none⟩=some (.bool (st i))) :
  Calls Tryd.prog 21 #[.slice la l.length lc,.slice (some ⟨rB,0,none⟩) l.length l.length] w fun e w'=>∃u,e=.returned u∧SlAt (fun b=>w.heap.size≤b∧b<w'.heap.size) (StrAt w') 1 (namL l st l.length) u∧Below w.heap.size w w':=by
 have HL:=veil hl
 have HArr:=veil ha
 have HX:=veil hx
 have HSz:Hid (∀k,∀s∈namL l st k,s.size≤maxLen):=namL_size (fun d hd=>by have:=hx d hd; unfold maxLen; omega)
 obtain⟨i0,hi,hz0,hz1,hz2⟩:=info_parts str_info
 have HI0:=veil hi
 have HZ0:=veil hz0
 have HZ1:=veil hz1
 have HZ2:=veil hz2
 clear hi hz0 hz1 hz2 hl ha hx
 go_enter Tryd.func21,Tryd.ntmps21
 go_wp2_with fail
 go_loopw [5,10] (fun v i wr=>∃k:Nat,k≤l.length∧i=.int .i64 k∧wr.ownsRow w.heap.size 9 1 v (namL l st k).length (txVals (namL l st k))∧Below w.heap.size w wr) (fun _ i _=>l.length - (intOf i).toNat)
 case atStart=>exact⟨0,Nat.zero_le _,rfl,World.ownsRow_nil _ _ _ _,Below.refl _ _⟩
 case round=>
  obtain⟨k,hk,rfl,hown,hbl⟩:=hrel
  have HOwn:=veil hown
  have HBl:=veil hbl
  have hszr:=hbl.size
  have hle:=namL_le l st k
  by_cases hlt:k<l.length
  ·have hlt':(k:Int)<(l.length:Int):=by omega
   have hk0:(0:Int)≤(k:Int):=by omega
   obtain⟨_,b,off,rfl,hb,hat⟩:=HL.out.at hlt
   obtain⟨a1,cap1,c0,m0,c1,hu⟩:=nd_cells hat
   have hbk:=hS b hb
   have d0:=(hbl.cell (p:=⟨b,off+k * 2,none⟩) hbk).trans c0
   have d1:=(hbl.cell (p:=⟨b,off+k * 2+1,none⟩) hbk).trans c1
   have g0:=(hbl.cell (World.block_lt_of_cell? _ _ (HArr.out k hlt))).trans (HArr.out k hlt)
   have hbr:b<wr.heap.size:=Nat.lt_of_lt_of_le hbk hbl.size
   have hgr:=World.block_lt_of_cell? _ _ g0
   have HNx:Hid (namL l st (k+1)=namL l st k++(if st k=true then [l[k].name] else [])):=by show _=_; rw[namL,nmN_at hlt]
   have hxk:=HX.out _ (List.getElem_mem hlt)
   clear c0 c1 m0 hat hu HL HArr HX hbk hb hbl hown
   generalize l[k].name=x at *
   generalize l[k].uses.length=un at *
   cases hst:st k with
   |true=>
    rw[hst] at g0
    have HNx':Hid (namL l st (k+1)=namL l st k++[x]):=by show _=_; rw[HNx.out,hst,if_pos rfl]
    have HC:Hid (∀W,Calls Tryd.prog 23 #[.agg #[.string x,.slice a1 un cap1]] W fun e w'=>e=.returned (.string x)∧Below W.heap.size W w'):=fun W=>nameOf_any x a1 un cap1 W hxk
    have HBx:Hid (∀o W,Below (wr.alloc o).heap.size (wr.alloc o) W→Below w.heap.size w W∧W.ownsRow w.heap.size 9 1 u5 (namL l st k).length (txVals (namL l st k))):=fun o W hW=>by
     have h1:=((Below.refl _ _).alloc (Nat.le_refl _) o).trans (hW.mono (show wr.heap.size≤_ by simp))
     exact⟨HBl.out.trans (h1.mono hszr),ownsTx_later HOwn.out h1⟩
    clear HNx hst HOwn
    generalize hnl:namL l st k=nl at *
    clear hnl
    go_wp2_with fail
    refine (HC.out _).mono ?_
    rintro e w3 ⟨rfl,hb3⟩
    obtain⟨hb4,ho4⟩:=HBx.out _ _ hb3
    have HB4:=veil hb4
    have HO4:=veil ho4
    have hsz4:=hb4.size
    have HGr5:Hid (∀w',(w3.alloc (.cells #[.string x] 9)).grownBy w' (Value.ownBlock u5)→Below w.heap.size w w'):=fun w' hg=>by
     have hrow:=ownsTx_at HO4.out
     exact (HB4.out.alloc (by omega) _).grown hg (by simp; omega) (fun q hq=>hrow q hq)
    clear hb3 hb4 ho4 HBx HC
    go_wp2_with (at_builtin; refine wpList_append_lies _ rfl _ _ 25 rfl w.heap.size 9 i0 (.string ⟨#[]⟩) 1 16 Tryd.underlying25 HI0.out HZ0.out HZ1.out HZ2.out rfl (by decide) _ _ _ rfl (HO4.out.alloc _) ⟨w3.heap.size,0,none⟩ 1 1 [.string x] rfl rfl (tx_new _ _) (tx_one _) (by decide) (by unfold maxLen; omega) (by omega) (by simp; omega) (w3.heap.size+1) (by simp) ?_)
    intro g5 cap5 w5 hown5 hgrow5 hat5 hlt5
    all_goals
     have HB5:Hid (Below w.heap.size w w5):=HGr5.out _ hgrow5
     have HO5:Hid (w5.ownsRow w.heap.size 9 1 (.slice (some ⟨g5,0,none⟩) (nl.length+1) cap5) (namL l st (k+1)).length (txVals (namL l st (k+1)))):=by
      show w5.ownsRow _ _ _ _ _ _
      rw[HNx'.out,tx_snoc,List.length_append]
      exact hown5
     clear hown5 hgrow5 hat5 hlt5
     go_wp2_with fail
     exact⟨⟨k+1,by omega,by go_num,HO5.out,HB5.out⟩,by simp[intOf]; omega⟩
   |false=>
    rw[hst] at g0
    have HNx':Hid (namL l st (k+1)=namL l st k):=by show _=_; rw[HNx.out,hst,if_neg (by decide),List.append_nil]
    have HBx:Hid (∀o,Below w.heap.size w (wr.alloc o)∧(wr.alloc o).ownsRow w.heap.size 9 1 u5 (namL l st (k+1)).length (txVals (namL l st (k+1)))):=fun o=>by
     rw[HNx'.out]
     have h1:=(Below.refl wr.heap.size wr).alloc (Nat.le_refl _) o
     exact⟨HBl.out.trans (h1.mono hszr),ownsTx_later HOwn.out h1⟩
    clear HNx hst HOwn
    go_wp2_with fail
    exact⟨⟨k+1,by omega,by go_num,(HBx.out _).2,(HBx.out _).1⟩,by simp[intOf]; omega⟩
  ·have hnl:¬(k:Int)<(l.length:Int):=by omega
   have hke:k=l.length:=by omega
   subst hke
   have HR:=veil (tx_row hown (by unfold maxLen; omega) (HSz.out _))
   clear hown HOwn hbl HL HArr HX
   go_wp2_with fail
   go_ret
   exact⟨_,rfl,HR.out,HBl.out⟩
end Go.Proofs.YtedpiamfpbdhoaaDoor
namespace Go.Proofs.YtedpiamfpbdhoaaDoor
open Go.RowKit
def noIdentB (s:ByteArray):Bool:=!identOk s
theorem noIdent_any (s:ByteArray) (hs:s.size≤maxLen) (w:World):Calls Tryd.prog 61 #[.string s] w fun e w'=>e=.returned (.bool (noIdentB s))∧Below w.heap.size w w':=by
 have HE:Hid (noIdentB s=!identOk s):=rfl
 go_enter Tryd.func61,Tryd.ntmps61
 go_wp2_with fail
 refine (ident_any s hs _).mono ?_
 rintro e w' ⟨rfl,hb⟩
 go_wp2
 go_ret
 exact⟨by rw[HE.out]; rfl,hb⟩
set_option maxHeartbeats 2000000 in
theorem index_no (S:Nat→Prop) (l:List ByteArray) (v:Value) (w:World) (hS:∀b,S b→b<w.heap.size) (hv:SlAt S (StrAt w) 1 l v) :
  Calls Tryd.prog 63 #[v,.func (.func 61) #[] #[]] w fun e w'=>e=.returned (.int .i64 (idxOf noIdentB l))∧Below w.heap.size w w':=by
 have HV:=veil hv
 have hlen:=hv.len
 unfold maxLen at hlen
 obtain⟨a,cap,rfl⟩:=hv.is
 clear hv
 go_enter Tryd.func63,Tryd.ntmps63
 go_wp2_with fail
 go_loopw [8] (fun i wr=>∃j:Nat,j≤l.length∧i=.int .i64 j∧findAt noIdentB l=j+findAt noIdentB (l.drop j)∧Below w.heap.size w wr) (fun i _=>l.length - (intOf i).toNat)
 case atStart=>exact⟨0,Nat.zero_le _,rfl,(Nat.zero_add _).symm,Below.refl _ _⟩
 case round=>
  obtain⟨j,hj,rfl,hq,hbl⟩:=hrel
  have HQ:=veil hq
  have HBW:=veil hbl
  clear hq
  by_cases hlt:j<l.length
  ·have hlt':(j:Int)<(l.length:Int):=by omega
   obtain⟨_,b,off,rfl,hb,a0,m0⟩:=HV.out.at hlt
   have hbk:=hS b hb
   rw[Nat.mul_one] at a0
   have d0:=(hbl.cell (p:=⟨b,off+j,none⟩) hbk).trans a0
   have HC:Hid (Calls Tryd.prog 61 #[.string l[j]] wr fun e w'=>e=.returned (.bool (noIdentB l[j]))∧Below wr.heap.size wr w'):=noIdent_any _ m0 wr
   have HYes:Hid (noIdentB l[j]=true→findAt noIdentB l=j):=fun h=>by
    rw[HQ.out,find_yes hlt h]; rfl
   have HNo:Hid (noIdentB l[j]=false→findAt noIdentB l=(j+1)+findAt noIdentB (l.drop (j+1))):=fun h=>by
    rw[HQ.out,find_no hlt h]; omega
   clear a0 m0 HV hbl HQ
   generalize l[j]=x at *
   cases hx:noIdentB x with
   |true=>
    rw[hx] at HC
    have HI:Hid (idxOf noIdentB l=(j:Int)):=by
     show _=_
     unfold idxOf
     rw[HYes.out hx,if_pos hlt]
    clear HYes HNo hx
    go_wp2_with fail
    refine HC.out.mono ?_
    rintro e w1 ⟨rfl,hb1⟩
    have HB1:=veil (HBW.out.trans (hb1.mono HBW.out.size))
    clear hb1
    go_wp2_with fail
    go_ret
    exact⟨by rw[HI.out]; rfl,HB1.out⟩
   |false=>
    rw[hx] at HC
    have HN:=veil (HNo.out hx)
    clear HYes HNo hx
    go_wp2_with fail
    refine HC.out.mono ?_
    rintro e w1 ⟨rfl,hb1⟩
    have HB1:=veil (HBW.out.trans (hb1.mono HBW.out.size))
    clear hb1
    go_wp2_with fail
    exact⟨⟨j+1,by omega,by go_num,HN.out,HB1.out⟩,by simp[intOf]; omega⟩
  ·have hnl:¬(j:Int)<(l.length:Int):=by omega
   have HI:Hid (idxOf noIdentB l=-1):=by
    show _=_
    unfold idxOf
    rw[HQ.out,find_end (by omega),if_neg (by omega)]
   clear HV hbl HQ
   go_wp2_with fail
   go_ret
   exact⟨by rw[HI.out]; rfl,HBW.out⟩
theorem contains_no (S:Nat→Prop) (l:List ByteArray) (v:Value) (w:World) (hS:∀b,S b→b<w.heap.size) (hv:SlAt S (StrAt w) 1 l v) :
  Calls Tryd.prog 44 #[v,.func (.func 61) #[] #[]] w fun e w'=>e=.returned (.bool (l.any noIdentB))∧Below w.heap.size w w':=by
 have HC:Hid (Calls Tryd.prog 63 #[v,.func (.func 61) #[] #[]] w fun e w'=>e=.returned (.int .i64 (idxOf noIdentB l))∧Below w.heap.size w w'):=index_no S l v w hS hv
 have HE:=veil (find_any_b (p:=noIdentB) (l:=l))
 obtain⟨a,cap,rfl⟩:=hv.is
 clear hv
 generalize idxOf noIdentB l=r at *
 go_enter Tryd.func44,Tryd.ntmps44
 go_wp2_with fail
 refine HC.out.mono ?_
 rintro e w1 ⟨rfl,hb1⟩
 have HB1:=veil hb1
 clear hb1
 go_wp2_with fail
 go_ret
 exact⟨by rw[← HE.out]; rfl,HB1.out⟩
theorem any_no {l:List ByteArray}:(!l.any noIdentB)=l.all identOk:=by
 induction l with
 |nil=>rfl
 |cons x r ih=>rw[List.any_cons,List.all_cons,← ih,noIdentB,Bool.not_or,Bool.not_not]
set_option maxHeartbeats 2000000 in
theorem fits_any (S:Nat→Prop) (n:Nd) (a:Option Addr) (cap:Nat) (w:World) (hS:∀b,S b→b<w.heap.size) (h0:n.name.size≤maxLen) (hp:SlAt S (StrAt w) 1 n.uses (.slice a n.uses.length cap)) :
  Calls Tryd.prog 38 #[.agg #[.string n.name,.slice a n.uses.length cap]] w fun e w'=>e=.returned (.bool (ndOk n))∧Below w.heap.size w w':=by
 have HP:=veil hp
 have hlen:=hp.len
 unfold maxLen at hlen
 have HE:Hid (ndOk n=(identOk n.name&&(decide (n.uses.length≤24)&&n.uses.all identOk))):=rfl
 have HI:Hid (∀W,Calls Tryd.prog 60 #[.string n.name] W fun e w'=>e=.returned (.bool (identOk n.name))∧Below W.heap.size W w'):=fun W=>ident_any _ h0 W
 have HA:Hid (Below w.heap.size w (w.alloc (.cells #[.string n.name,.slice a n.uses.length cap] 27))):=(Below.refl _ _).alloc (Nat.le_refl _) _
 have HK:Hid (∀W,Below w.heap.size w W→Calls Tryd.prog 44 #[.slice a n.uses.length cap,.func (.func 61) #[] #[]] W fun e w'=>e=.returned (.bool (n.uses.any noIdentB))∧Below W.heap.size W w'):=fun W hW=>
  contains_no S _ _ W (fun b hb=>Nat.lt_of_lt_of_le (hS b hb) hW.size) (strSl_keep (Keeps.below hW hS) hp)
 have HN:=veil (any_no (l:=n.uses))
 clear hp
 generalize ndOk n=ok at *
 generalize n.name=x at *
 generalize n.uses=ps at *
 cases hi:identOk x with
 |false=>
  rw[hi] at HI
  have HE':Hid (ok=false):=by show _=_; rw[HE.out,hi]; rfl
  clear HE hi
  go_enter Tryd.func38,Tryd.ntmps38
  go_wp2_with fail
  refine (HI.out _).mono ?_
  rintro e w1 ⟨rfl,hb⟩
  have HB:=veil (HA.out.trans (hb.mono (by simp)))
  clear hb
  go_wp2_with fail
  go_ret
  exact⟨by rw[HE'.out]; rfl,HB.out⟩
 |true=>
  rw[hi] at HI
  by_cases h8:ps.length≤24
  case neg=>
   have h8':¬(ps.length:Int)≤24:=by omega
   have HE':Hid (ok=false):=by show _=_; rw[HE.out,hi]; simp[h8]
   clear HE hi h8
   go_enter Tryd.func38,Tryd.ntmps38
   go_wp2_with fail
   refine (HI.out _).mono ?_
   rintro e w1 ⟨rfl,hb⟩
   have HB:=veil (HA.out.trans (hb.mono (by simp)))
   have hc:∀o,w1.cell? ⟨w.heap.size,o,none⟩=(w.alloc (.cells #[.string x,.slice a ps.length cap] 27)).cell? ⟨w.heap.size,o,none⟩:=fun o=>hb.cell (p:=⟨w.heap.size,o,none⟩) (by simp)
   clear hb
   go_wp2_with fail
   go_ret
   exact⟨by rw[HE'.out]; rfl,HB.out⟩
  have h8':(ps.length:Int)≤24:=by omega
  have HE':Hid (ok=!ps.any noIdentB):=by show _=_; rw[HN.out,HE.out,hi]; simp[h8]
  clear HE hi h8
  go_enter Tryd.func38,Tryd.ntmps38
  go_wp2_with fail
  refine (HI.out _).mono ?_
  rintro e w1 ⟨rfl,hb⟩
  have HB:=veil (HA.out.trans (hb.mono (by simp)))
  have hc:∀o,w1.cell? ⟨w.heap.size,o,none⟩=(w.alloc (.cells #[.string x,.slice a ps.length cap] 27)).cell? ⟨w.heap.size,o,none⟩:=fun o=>hb.cell (p:=⟨w.heap.size,o,none⟩) (by simp)
  clear hb
  go_wp2_with fail
  refine (HK.out _ HB.out).mono ?_
  rintro e w2 ⟨rfl,hb2⟩
  have HB2:=veil (HB.out.trans (hb2.mono HB.out.size))
  clear hb2
  go_wp2_with fail
  go_ret
  exact⟨by rw[HE'.out]; rfl,HB2.out⟩
end Go.Proofs.YtedpiamfpbdhoaaDoor
namespace Go.Proofs.YtedpiamfpbdhoaaDoor
open Go.RowKit
set_option maxHeartbeats 4000000 in
theorem checkNodes_any (S:Nat→Prop) (l:List Nd) (v:Value) (w:World) (hS:∀b,S b→b<w.heap.size) (hv:SlAt S (NdAt S w) 2 l v) :
  Calls Tryd.prog 18 #[v] w fun e w'=>e=.returned (.int .i64 (ndsFault l))∧Below w.heap.size w w':=by
 have HV:=veil hv
 have hlen:=hv.len
 unfold maxLen at hlen
 obtain⟨a,cap,rfl⟩:=hv.is
 have HE:Hid (ndsFault l=if 10<(l.length:Int) then 1 else orderFault ndFault Nd.name l ⟨#[]⟩):=rfl
 clear hv
 generalize ndsFault l=r at *
 by_cases h10:(10:Int)<(l.length:Int)
 ·have HE':Hid (r=1):=HE.out.trans (if_pos h10)
  clear HE
  go_enter Tryd.func18,Tryd.ntmps18
  go_wp2_with fail
  go_ret
  exact⟨by rw[HE'.out]; rfl,Below.refl _ _⟩
 have HE':Hid (r=orderFault ndFault Nd.name l ⟨#[]⟩):=HE.out.trans (if_neg h10)
 clear HE
 go_enter Tryd.func18,Tryd.ntmps18
 go_wp2_with fail
 go_loopw [3,11] (fun s i wr=>∃(j:Nat) (p:ByteArray),j≤l.length∧i=.int .i64 j∧s=.string p∧r=orderFault ndFault Nd.name (l.drop j) p∧Below w.heap.size w wr) (fun _ i _=>l.length - (intOf i).toNat)
 case atStart=>exact⟨0,_,Nat.zero_le _,rfl,rfl,HE'.out,Below.refl _ _⟩
 case round=>
  obtain⟨j,p,hj,rfl,rfl,hq,hbl⟩:=hrel
  have HQ:=veil hq
  have HBW:=veil hbl
  clear hq HE'
  by_cases hlt:j<l.length
  ·have hlt':(j:Int)<(l.length:Int):=by omega
   obtain⟨_,b,off,rfl,hb,hat⟩:=HV.out.at hlt
   obtain⟨a1,cap1,c0,m0,c1,hu⟩:=nd_cells hat
   have hbk:=hS b hb
   have d0:=(hbl.cell (p:=⟨b,off+j * 2,none⟩) hbk).trans c0
   have d1:=(hbl.cell (p:=⟨b,off+j * 2+1,none⟩) hbk).trans c1
   have hbr:b<wr.heap.size:=Nat.lt_of_lt_of_le hbk hbl.size
   have HC:Hid (∀W,Below wr.heap.size wr W→Calls Tryd.prog 38 #[.agg #[.string l[j].name,.slice a1 l[j].uses.length cap1]] W fun e w'=>e=.returned (.bool (ndOk l[j]))∧Below W.heap.size W w'):=fun W hW=>by
    have hbW:=HBW.out.trans (hW.mono hbl.size)
    exact fits_any S _ _ _ W (fun b hb=>Nat.lt_of_lt_of_le (hS b hb) hbW.size) m0 (strSl_keep (Keeps.below hbW hS) hu)
   have HAl:Hid (∀o,Below wr.heap.size wr (wr.alloc o)):=fun o=>(Below.refl _ _).alloc (Nat.le_refl _) _
   have HB2:Hid (∀o W,Below (wr.alloc o).heap.size (wr.alloc o) W→Below w.heap.size w W):=fun o W hW=>HBW.out.trans (((HAl.out o).trans (hW.mono (by simp))).mono hbl.size)
   have HCe:Hid (∀x y W,Below (wr.alloc (.cells #[x,y] 27)).heap.size (wr.alloc (.cells #[x,y] 27)) W→W.cell? ⟨wr.heap.size,0,none⟩=some x):=fun x y W hW=>
    (hW.cell (p:=⟨wr.heap.size,0,none⟩) (by simp)).trans (by simp[go_sem])
   have HBad:Hid (ndOk l[j]=false→r=4):=fun h=>by
    have h4:ndFault l[j]=4:=by unfold ndFault bad4; rw[if_neg (by rw[h]; simp)]
    rw[HQ.out,order_bad hlt (by rw[h4]; decide),h4]
   have HOk:Hid (ndOk l[j]=true→(leB l[j].name p=true→r=7)∧(leB l[j].name p=false→r=orderFault ndFault Nd.name (l.drop (j+1)) l[j].name)):=fun h=>by
    have h0:ndFault l[j]=0:=by unfold ndFault bad4; rw[if_pos h]
    have hg:=gt_not_le l[j].name p
    refine⟨fun hl=>?_,fun hl=>?_⟩
    ·rw[hl] at hg
     rw[HQ.out,order_low hlt h0 hg]
    ·rw[hl] at hg
     rw[HQ.out,order_on hlt h0 hg]
   clear c0 c1 m0 hat hu HV hbl
   generalize ndOk l[j]=ok at *
   generalize l[j].name=x at *
   cases ok with
   |false=>
    have HR:=veil (HBad.out rfl)
    clear HBad HOk HQ
    go_wp2_with fail
    refine (HC.out _ (HAl.out _)).mono ?_
    rintro e w1 ⟨rfl,hb1⟩
    have HB1:=veil (HB2.out _ _ hb1)
    clear hb1
    go_wp2_with fail
    go_ret
    exact⟨by rw[HR.out]; rfl,HB1.out⟩
   |true=>
    have hh:=HOk.out rfl
    have HR1:=veil hh.1
    have HR2:=veil hh.2
    clear HBad HOk HQ hh
    have hle:(Op.bytesLess x.toList p.toList||x.toList==p.toList)=leB x p:=rfl
    cases hl:leB x p with
    |true=>
     have HR:=veil (HR1.out hl)
     rw[hl] at hle
     clear HR1 HR2 hl
     go_wp2_with fail
     refine (HC.out _ (HAl.out _)).mono ?_
     rintro e w1 ⟨rfl,hb1⟩
     have e0:=HCe.out _ _ _ hb1
     have HB1:=veil (HB2.out _ _ hb1)
     clear hb1
     go_wp2_with fail
     go_ret
     exact⟨by rw[HR.out]; rfl,HB1.out⟩
    |false=>
     have HR:=veil (HR2.out hl)
     rw[hl] at hle
     clear HR1 HR2 hl
     go_wp2_with fail
     refine (HC.out _ (HAl.out _)).mono ?_
     rintro e w1 ⟨rfl,hb1⟩
     have e0:=HCe.out _ _ _ hb1
     have HB1:=veil (HB2.out _ _ hb1)
     clear hb1
     go_wp2_with fail
     exact⟨⟨j+1,x,by omega,by go_num,rfl,HR.out,HB1.out⟩,by simp[intOf]; omega⟩
  ·have hnl:¬(j:Int)<(l.length:Int):=by omega
   have HR:Hid (r=0):=HQ.out.trans (order_end (by omega))
   clear HV hbl HQ
   go_wp2_with fail
   go_ret
   exact⟨by rw[HR.out]; rfl,HBW.out⟩
end Go.Proofs.YtedpiamfpbdhoaaDoor
