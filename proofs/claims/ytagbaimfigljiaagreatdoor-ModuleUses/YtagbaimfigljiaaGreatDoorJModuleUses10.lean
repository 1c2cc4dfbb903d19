import Derived.Test.YtagbaimfigljiaaGreatDoorJModuleUses9
import Derived.Test.YtagbaimfigljiaaGreatDoorJModuleUses6
import Derived.Test.YtagbaimfigljiaaGreatDoorJModuleUses0
import Derived.Lib.Bytealg
import Derived.Lib.IndexAny
import Derived.WalkSpells
namespace Go.Proofs.YtagbaimfigljiaaGreatDoor
open Go.RowKit
set_option maxRecDepth 100000

theorem pTy_adv {l : Toks} : ∀ (f i : Nat) (t : Ty) (j : Nat), pTy l f i = .ok t j → i ≤ j
  | 0, _, _, _, h => by rw [pTy] at h; cases h
  | f + 1, i, t, j, h => by
    rw [pTy] at h
    split at h
    · injection h with _ h; omega
    · split at h
      · injection h with _ h; omega
      · split at h
        · split at h
          · cases h
          · rename_i hk
            have := pTy_adv f _ _ _ hk
            split at h
            · injection h with _ h; omega
            · cases h
        · split at h
          · cases h
          · rename_i hk
            have := nameAt_adv hk
            injection h with _ h; omega

theorem pNamed_adv {l : Toks} {s : List UInt8} {i : Nat} {x : Fd} {j : Nat} (h : pNamed l s i = .ok x j) : i ≤ j := by
  unfold pNamed at h
  split at h
  · cases h
  · split at h
    · split at h
      · cases h
      · rename_i hk
        have := pTy_adv _ _ _ _ hk
        injection h with _ h; omega
    · cases h

theorem fdL_moved {B base bl n1 : Nat} {xs : List Fd} {la : Option Addr} {cap : Nat} {ys : List Value} {W W' : World} (h : ListOf FdC 101 41 base bl n1 xs la cap ys W) (hm : Moved B W W') (hB : B < bl) (hbl : bl < base) : ListOf FdC 101 41 base bl n1 xs la cap ys W' :=
  ListOf.moved (C := FdC) (fun hk h => fdC_keep hk h) h hm hB hbl

theorem fdL_push {base bl n1 : Nat} {xs : List Fd} {x : Fd} {la : Option Addr} {cap g cap' : Nat} {ys : List Value} {W W' : World} {k : Int} {f s : ByteArray} {va1 : Option Addr} {va2 va3 : Nat} (h : ListOf FdC 101 41 base bl n1 xs la cap ys W) (hbl : bl < base) (hn1 : base ≤ n1) (hnm : x.name.size ≤ maxLen) (hcs : TyCs (Fresh n1 W) W x.is k f s (.slice va1 va2 va3))
    (hg : Grew base bl 101 41 (.slice la xs.length cap) (.slice (some ⟨g, 0, none⟩) (xs.length + 1) cap') (xs.length + 1) (ys ++ [.string x.name, .int .i64 k, .string f, .string s, .slice va1 va2 va3]) W W') :
    ListOf FdC 101 41 base bl W'.heap.size (xs ++ [x]) (some ⟨g, 0, none⟩) cap' (ys ++ [.string x.name, .int .i64 k, .string f, .string s, .slice va1 va2 va3]) W' :=
  ListOf.push (C := FdC) (fun hk h => fdC_keep hk h) h hbl hn1 rfl ⟨_, _, _, _, _, _, rfl, hnm, hcs⟩ hg

theorem fdL_sl {base bl n1 n0 : Nat} {xs : List Fd} {la : Option Addr} {cap : Nat} {ys : List Value} {W : World} (h : ListOf FdC 101 41 base bl n1 xs la cap ys W) (hn0 : n0 ≤ base) (hmax : xs.length ≤ maxLen) : SlAt (Fresh n0 W) (FdAt (Fresh n0 W) W) 5 xs (.slice la xs.length cap) :=
  ListOf.toSl (C := FdC) (P := FdAt) (fun hk h => fdC_keep hk h) (fun h1 h2 h3 => fdC_at h1 h2 h3) h hn0 hmax

set_option maxHeartbeats 8000000 in
theorem nextF_go (B : Nat) (l : Toks) (fin : ByteArray) (w0 Wb : World) (base bl br bo bn be bk g1 g : Nat) (lb1 lb : Array Value) (e1 : ∀ args w, (callFunc g1 args).run Tryz.prog w = .ok (.enter g1 args) w) (eg : ∀ args w, (callFunc g args).run Tryz.prog w = .ok (.enter g args) w) (R : Int → World → Prop)
    (hw0 : Moved B w0 Wb) (hBl : B < bl) (h0l : w0.heap.size ≤ bl) (hbl : bl < base)
    (xr : LBox B bl base br (.pointer (some ⟨B, 0, none⟩)) Wb) (xo : LBox B bl base bo (.func (.func g1) #[] lb1) Wb)
    (xn : LBox B bl base bn (.func (.func 313) #[] #[.pointer (some ⟨bl, 0, none⟩), .pointer (some ⟨br, 0, none⟩), .pointer (some ⟨bo, 0, none⟩), .pointer (some ⟨bn, 0, none⟩), .pointer (some ⟨be, 0, none⟩), .pointer (some ⟨bk, 0, none⟩)]) Wb)
    (xe : LBox B bl base be (.string fin) Wb) (xk : LBox B bl base bk (.func (.func g) #[] lb) Wb)
    (hOne : ∀ (i : Nat) (W : World), RdAt B l i W → Kept B bl base Wb W → ∀ (g' : Nat) (lb' : Array Value), (∀ args w, (callFunc g' args).run Tryz.prog w = .ok (.enter g' args) w) →
      (∀ e, pNamed l [58] i = .bad e → ∀ w', Moved B W w' → R e w') →
      (∀ x j, pNamed l [58] i = .ok x j → ∀ w' v, Moved B W w' → RdAt B l j w' → FdIs (Fresh W.heap.size w') w' x v → Calls Tryz.prog g' (#[v] ++ lb') w' (Ends R)) →
      Calls Tryz.prog g1 (#[.func (.func g') #[] lb'] ++ lb1) W (Ends R)) :
    ∀ (N i : Nat) (x : Fd) (v : Value) (n1 : Nat) (xs : List Fd) (la : Option Addr) (lcap : Nat) (ys : List Value) (W : World), l.length ≤ i + N → xs.length ≤ i → RdAt B l i W → Kept B bl base Wb W → base ≤ n1 → n1 ≤ W.heap.size →
      ListOf FdC 101 41 base bl n1 xs la lcap ys W → FdIs (Fresh n1 W) W x v →
      (∀ e, nextRes (pNamed l [58]) l fin.data.toList N xs x i = .bad e → ∀ w', Moved B w0 w' → R e w') →
      (∀ zs j, nextRes (pNamed l [58]) l fin.data.toList N xs x i = .ok zs j → ∀ w' v', Moved B w0 w' → RdAt B l j w' → SlAt (Fresh w0.heap.size w') (FdAt (Fresh w0.heap.size w') w') 5 zs v' → Calls Tryz.prog g (#[v'] ++ lb) w' (Ends R)) →
      Calls Tryz.prog 313 #[v, .pointer (some ⟨bl, 0, none⟩), .pointer (some ⟨br, 0, none⟩), .pointer (some ⟨bo, 0, none⟩), .pointer (some ⟨bn, 0, none⟩), .pointer (some ⟨be, 0, none⟩), .pointer (some ⟨bk, 0, none⟩)] W (Ends R) := by
  intro N
  induction N with
  | zero =>
    intro i x v n1 xs la lcap ys W hN hxi hr hk hn1 hn1W hL hx hbad hok
    obtain ⟨k, fo, s, va, rfl, hnm, hcs⟩ := hx
    obtain ⟨va1, va2, va3, rfl⟩ := hcs.slice
    have hil := rd_le hr
    have h200 := rd_200 hr
    have hm63 : (xs.length + 1 : Nat) ≤ maxLen := by unfold maxLen; omega
    refine nextF_step bl br bo bn be bk base la lcap xs.length ys x.name k fo s va1 va2 va3 W B l i fin g1 g lb1 lb e1 eg R Wb _ hL.box hL.own hk.room hbl hm63 (by omega) hBl hr hk xr xo xn xe xk ?_ ?_ ?_
    · intro hc
      have := sgn_lt hc
      omega
    · intro hc hf g' cap' w w' hG hm hr'
      have hk' := (hk.grew hG hL.own hBl hbl).moved hm
      have hL' := fdL_moved (fdL_push hL hbl hn1 hnm hcs hG) hm hBl hbl
      have hS := fdL_sl (n0 := w0.heap.size) hL' (by omega) (by simp; omega)
      have hlen : (xs ++ [x]).length = xs.length + 1 := by simp
      rw [hlen] at hS
      exact hok (xs ++ [x]) (i + 1) (by unfold nextRes; rw [if_neg (by rw [hc]; simp), if_pos hf]) w' _ (hk'.toMoved hw0 h0l hbl) hr' hS
    · intro hc hf g' cap' w w' hG hm
      exact hbad 4 (by unfold nextRes; rw [if_neg (by rw [hc]; simp), if_neg (by rw [hf]; simp)]) w' (((hk.grew hG hL.own hBl hbl).moved hm).toMoved hw0 h0l hbl)
  | succ N ih =>
    intro i x v n1 xs la lcap ys W hN hxi hr hk hn1 hn1W hL hx hbad hok
    obtain ⟨k, fo, s, va, rfl, hnm, hcs⟩ := hx
    obtain ⟨va1, va2, va3, rfl⟩ := hcs.slice
    have hil := rd_le hr
    have h200 := rd_200 hr
    have hm63 : (xs.length + 1 : Nat) ≤ maxLen := by unfold maxLen; omega
    refine nextF_step bl br bo bn be bk base la lcap xs.length ys x.name k fo s va1 va2 va3 W B l i fin g1 g lb1 lb e1 eg R Wb _ hL.box hL.own hk.room hbl hm63 (by omega) hBl hr hk xr xo xn xe xk ?_ ?_ ?_
    · intro hc g' cap' w w' hG hm hr'
      have hk' := (hk.grew hG hL.own hBl hbl).moved hm
      have hL' := fdL_moved (fdL_push hL hbl hn1 hnm hcs hG) hm hBl hbl
      have hP : nextRes (pNamed l [58]) l fin.data.toList (N + 1) xs x i = pList (pNamed l [58]) l fin.data.toList (N + 1) (xs ++ [x]) (i + 1) := if_pos hc
      refine hOne (i + 1) w' hr' hk' 313 _ (enters_of Tryz.func313 (by kernel_rfl) rfl) ?_ ?_
      · intro e he w'' hm''
        exact hbad e (by rw [hP, pList_bad he]) w'' ((hk'.moved hm'').toMoved hw0 h0l hbl)
      · intro y j hy w'' v hm'' hr'' hv
        have hadv := pNamed_adv hy
        exact ih j y v w'.heap.size (xs ++ [x]) _ _ _ w'' (by omega) (by simp; omega) hr'' (hk'.moved hm'') hk'.room hm''.below.size (fdL_moved (hL'.wider hm.below.size) hm'' hBl hbl) hv
          (fun e he w3 hm3 => hbad e (by rw [hP, pList_ok hy]; exact he) w3 hm3)
          (fun zs j' hz w3 v3 hm3 hr3 hv3 => hok zs j' (by rw [hP, pList_ok hy]; exact hz) w3 v3 hm3 hr3 hv3)
    · intro hc hf g' cap' w w' hG hm hr'
      have hk' := (hk.grew hG hL.own hBl hbl).moved hm
      have hL' := fdL_moved (fdL_push hL hbl hn1 hnm hcs hG) hm hBl hbl
      have hS := fdL_sl (n0 := w0.heap.size) hL' (by omega) (by simp; omega)
      have hlen : (xs ++ [x]).length = xs.length + 1 := by simp
      rw [hlen] at hS
      exact hok (xs ++ [x]) (i + 1) (by unfold nextRes; rw [if_neg (by rw [hc]; simp), if_pos hf]) w' _ (hk'.toMoved hw0 h0l hbl) hr' hS
    · intro hc hf g' cap' w w' hG hm
      exact hbad 4 (by unfold nextRes; rw [if_neg (by rw [hc]; simp), if_neg (by rw [hf]; simp)]) w' (((hk.grew hG hL.own hBl hbl).moved hm).toMoved hw0 h0l hbl)

theorem oneF_next (B : Nat) (l : Toks) (i : Nat) (W : World) (br : Nat) (g : Nat) (lb : Array Value) (eg : ∀ args w, (callFunc g args).run Tryz.prog w = .ok (.enter g args) w) (R : Int → World → Prop) (hr : RdAt B l i W)
    (cr : W.cell? ⟨br, 0, none⟩ = some (.pointer (some ⟨B, 0, none⟩)))
    (hbad : ∀ e, pNamed l [58] i = .bad e → ∀ w', Moved B W w' → R e w')
    (hok : ∀ x j, pNamed l [58] i = .ok x j → ∀ w' v, Moved B W w' → RdAt B l j w' → FdIs (Fresh W.heap.size w') w' x v → Calls Tryz.prog g (#[v] ++ lb) w' (Ends R)) :
    Calls Tryz.prog 271 #[.func (.func g) #[] lb, .pointer (some ⟨br, 0, none⟩)] W (Ends R) := by
  have HE := veil (named_next B l i ⟨#[58]⟩ W g lb eg R hr hbad hok)
  clear hbad hok hr eg
  go_enter Tryz.func271, Tryz.ntmps271
  go_wp2_with fail
  refine HE.out.mono ?_
  rintro e w' ⟨y, rfl, hy⟩
  have HY := veil hy
  clear hy
  go_wp2_with fail
  go_ret
  exact ⟨_, rfl, HY.out⟩

set_option maxHeartbeats 4000000 in
theorem listedF_next (B : Nat) (l : Toks) (i : Nat) (fin : ByteArray) (w : World) (br : Nat) (g : Nat) (lb : Array Value) (eg : ∀ args w, (callFunc g args).run Tryz.prog w = .ok (.enter g args) w) (R : Int → World → Prop) (hr : RdAt B l i w)
    (cr : w.cell? ⟨br, 0, none⟩ = some (.pointer (some ⟨B, 0, none⟩))) (hbr : B < br)
    (hbad : ∀ e, pList (pNamed l [58]) l fin.data.toList (l.length + 1) [] i = .bad e → ∀ w', Moved B w w' → R e w')
    (hok : ∀ xs j, pList (pNamed l [58]) l fin.data.toList (l.length + 1) [] i = .ok xs j → ∀ w' v, Moved B w w' → RdAt B l j w' → SlAt (Fresh w.heap.size w') (FdAt (Fresh w.heap.size w') w') 5 xs v → Calls Tryz.prog g (#[v] ++ lb) w' (Ends R)) :
    Calls Tryz.prog 272 #[.pointer (some ⟨B, 0, none⟩), .string fin, .func (.func 271) #[] #[.pointer (some ⟨br, 0, none⟩)], .func (.func g) #[] lb] w (Ends R) := by
  have hlt := rd_lt hr
  have hbrw : br < w.heap.size := World.block_lt_of_cell? w _ cr
  obtain ⟨Wb, hWb, hsz, p0, p1, p2, p3, p4, p5, hbel⟩ := six_new w (.cells #[.pointer (some ⟨B, 0, none⟩)] 179) (.cells #[.string fin] 9) (.cells #[.func (.func 271) #[] #[.pointer (some ⟨br, 0, none⟩)]] 297) (.cells #[.func (.func g) #[] lb] 250) (.cells #[.slice none 0 0] 41)
    (.cells #[.func (.func 313) #[] #[.pointer (some ⟨w.heap.size + 4, 0, none⟩), .pointer (some ⟨w.heap.size, 0, none⟩), .pointer (some ⟨w.heap.size + 2, 0, none⟩), .pointer (some ⟨w.heap.size + 5, 0, none⟩), .pointer (some ⟨w.heap.size + 1, 0, none⟩), .pointer (some ⟨w.heap.size + 3, 0, none⟩)]] 156)
  have hm : Moved B w Wb := Moved.of_below hbel (by omega)
  have hr0 := rd_below hr hbel
  have cr0 : Wb.cell? ⟨br, 0, none⟩ = some (.pointer (some ⟨B, 0, none⟩)) := (hbel.cell (p := ⟨br, 0, none⟩) hbrw).trans cr
  have xbr : LBox B (w.heap.size + 4) (w.heap.size + 6) br (.pointer (some ⟨B, 0, none⟩)) Wb := ⟨cr0, hbr, by omega, by omega⟩
  have hK0 : Kept B (w.heap.size + 4) (w.heap.size + 6) Wb Wb := ⟨Below.refl _ _, fun _ _ _ _ => rfl, by omega⟩
  have hL0 : ListOf FdC 101 41 (w.heap.size + 6) (w.heap.size + 4) (w.heap.size + 6) [] none 0 [] Wb := ⟨p4, ⟨rfl, Or.inl ⟨rfl, rfl⟩⟩, fun g' h => (by cases h), fun j hj => absurd hj (by simp)⟩
  have cI := oneF_next B l i Wb br 313 #[.pointer (some ⟨w.heap.size + 4, 0, none⟩), .pointer (some ⟨w.heap.size, 0, none⟩), .pointer (some ⟨w.heap.size + 2, 0, none⟩), .pointer (some ⟨w.heap.size + 5, 0, none⟩), .pointer (some ⟨w.heap.size + 1, 0, none⟩), .pointer (some ⟨w.heap.size + 3, 0, none⟩)] (enters_of Tryz.func313 (by kernel_rfl) rfl) R hr0 cr0
    (fun e he w' hm' => hbad e (pList_bad he) w' (hm.trans hm'))
    (fun x j hx w' v hm' hr' hv => by
      refine nextF_go B l fin w Wb (w.heap.size + 6) (w.heap.size + 4) w.heap.size (w.heap.size + 2) (w.heap.size + 5) (w.heap.size + 1) (w.heap.size + 3) 271 g #[.pointer (some ⟨br, 0, none⟩)] lb (enters_of Tryz.func271 (by kernel_rfl) rfl) eg R hm (by omega) (by omega) (by omega)
        ⟨box_cell p0, by omega, by omega, by omega⟩ ⟨box_cell p2, by omega, by omega, by omega⟩ ⟨box_cell p5, by omega, by omega, by omega⟩ ⟨box_cell p1, by omega, by omega, by omega⟩ ⟨box_cell p3, by omega, by omega, by omega⟩
        (fun i' W hr1 hk1 g' lb' eg' hbad' hok' => oneF_next B l i' W br g' lb' eg' R hr1 (xbr.later hk1) hbad' hok')
        l.length j x v (w.heap.size + 6) [] none 0 [] w' (by omega) (by simp) hr' (hK0.moved hm') (Nat.le_refl _) (by have := hm'.below.size; omega) (fdL_moved hL0 hm' (by omega) (by omega)) (by rw [hsz] at hv; exact hv) ?_ ?_
      · intro e he w'' hm''
        exact hbad e (by rw [pList_ok hx]; exact he) w'' hm''
      · intro zs j' hz w'' v' hm'' hr'' hv'
        exact hok zs j' (by rw [pList_ok hx]; exact hz) w'' v' hm'' hr'' hv')
  rw [← hWb] at cI
  have HCI := veil cI
  have hef := makeFunc_run
  have e1 := enters_of (P := Tryz.prog) Tryz.func271 (by kernel_rfl) rfl
  clear cI hbad hok hr hWb hsz p0 p1 p2 p3 p4 p5 hbel hm hr0 cr0 xbr hK0 hL0 cr eg hbrw
  go_enter Tryz.func272, Tryz.ntmps272
  go_wp2_with fail
  refine HCI.out.mono ?_
  rintro e w' ⟨y, rfl, hy⟩
  have HY := veil hy
  clear hy
  go_wp2_with fail
  go_ret
  exact ⟨_, rfl, HY.out⟩

/-- the reader's params reads as 'pParams' says. -/
def ParamsReads : Prop := ∀ (B : Nat) (l : Toks) (i : Nat) (w : World) (g : Nat) (lb : Array Value), (∀ args w, (callFunc g args).run Tryz.prog w = .ok (.enter g args) w) → ∀ (R : Int → World → Prop), RdAt B l i w →
    (∀ e, pParams l i = .bad e → ∀ w', Moved B w w' → R e w') →
    (∀ xs j, pParams l i = .ok xs j → ∀ w' v, Moved B w w' → RdAt B l j w' → SlAt (Fresh w.heap.size w') (FdAt (Fresh w.heap.size w') w') 5 xs v → Calls Tryz.prog g (#[v] ++ lb) w' (Ends R)) →
    Calls Tryz.prog 199 #[.pointer (some ⟨B, 0, none⟩), .func (.func g) #[] lb] w (Ends R)

set_option maxHeartbeats 2000000 in
theorem params_next : ParamsReads := by
  intro B l i w g lb eg R hr hbad hok
  have hlt := rd_lt hr
  have hal : Below w.heap.size w (w.alloc (.cells #[.pointer (some ⟨B, 0, none⟩)] 179)) := (Below.refl _ _).alloc (Nat.le_refl _) _
  have HM0 : Hid (Moved B w (w.alloc (.cells #[.pointer (some ⟨B, 0, none⟩)] 179))) := Moved.of_below hal (by omega)
  have HR0 := veil (rd_below hr hal)
  have HBad := veil hbad
  have HOk := veil hok
  have HEg := veil eg
  have hef := makeFunc_run
  clear hbad hok hr hal eg
  go_enter Tryz.func199, Tryz.ntmps199
  go_wp2_with fail
  refine (sign_next B l i ⟨#[41]⟩ _ HR0.out).mono ?_
  rintro e w1 ⟨rfl, q1, q2⟩
  have HM1 := veil (HM0.out.trans q2)
  have hsz1 : w.heap.size + 1 ≤ w1.heap.size := by have := q2.below.size; simpa using this
  have c1 : w1.cell? ⟨w.heap.size, 0, none⟩ = some (.pointer (some ⟨B, 0, none⟩)) := (q2.cell (by omega) (by simp) 0).trans (World.cell?_alloc_at _ _ _ _ rfl)
  cases hs : sgn l i [41]
  · have hs' : sgn l i (ByteArray.mk #[41]).data.toList = false := hs
    rw [hs'] at q1
    have q1' : RdAt B l i w1 := q1
    have hP : pParams l i = pList (pNamed l [58]) l [41] (l.length + 1) [] i := by unfold pParams; rw [if_neg (by rw [hs]; simp)]
    have cI := listedF_next B l i ⟨#[41]⟩ w1 w.heap.size g lb HEg.out R q1' c1 (by omega)
      (fun e he w' hm' => HBad.out e (by rw [hP]; exact he) w' (HM1.out.trans hm'))
      (fun xs j hx w' v hm' hr' hv => HOk.out xs j (by rw [hP]; exact hx) w' v (HM1.out.trans hm') hr' (fdSl_keep ⟨fun _ _ => rfl, fun b hb => ⟨by have := hb.1; omega, hb.2⟩⟩ hv))
    have HCI := veil cI
    try rw [hs']
    clear q1 q1' q2 hs hs' HBad HOk cI hP
    go_wp2_with fail
    refine HCI.out.mono ?_
    rintro e w' ⟨y, rfl, hy⟩
    have HY := veil hy
    clear hy
    go_wp2_with fail
    go_ret
    exact ⟨_, rfl, HY.out⟩
  · have hs' : sgn l i (ByteArray.mk #[41]).data.toList = true := hs
    rw [hs'] at q1
    have q1' : RdAt B l (i + 1) w1 := q1
    have HCI := veil (HOk.out [] (i + 1) (by unfold pParams; rw [if_pos hs]) w1 _ HM1.out q1' none_sl)
    have eg := HEg.out
    try rw [hs']
    clear q1 q1' q2 hs hs' HBad HOk
    go_wp2_with fail
    refine HCI.out.mono ?_
    rintro e w' ⟨y, rfl, hy⟩
    have HY := veil hy
    clear hy
    go_wp2_with fail
    go_ret
    exact ⟨_, rfl, HY.out⟩

end Go.Proofs.YtagbaimfigljiaaGreatDoor
namespace Go.Proofs.YtagbaimfigljiaaGreatDoor
open Go.RowKit
set_option maxRecDepth 100000

/-- the boxes of a function's reading. -/
structure FBox (B : Nat) (br bk bn bv : Nat) (g : Nat) (lb : Array Value) (nm vr : ByteArray) (W : World) : Prop where
  r : W.cell? ⟨br, 0, none⟩ = some (.pointer (some ⟨B, 0, none⟩))
  k : W.cell? ⟨bk, 0, none⟩ = some (.func (.func g) #[] lb)
  n : W.cell? ⟨bn, 0, none⟩ = some (.string nm)
  v : W.cell? ⟨bv, 0, none⟩ = some (.string vr)
  hr : B < br
  hk : B < bk
  hn : B < bn
  hv : B < bv

theorem FBox.keep {B br bk bn bv g : Nat} {lb : Array Value} {nm vr : ByteArray} {W W' : World} (h : FBox B br bk bn bv g lb nm vr W) (hm : Moved B W W') : FBox B br bk bn bv g lb nm vr W' :=
  ⟨(hm.cell h.hr (World.block_lt_of_cell? W _ h.r) 0).trans h.r, (hm.cell h.hk (World.block_lt_of_cell? W _ h.k) 0).trans h.k, (hm.cell h.hn (World.block_lt_of_cell? W _ h.n) 0).trans h.n, (hm.cell h.hv (World.block_lt_of_cell? W _ h.v) 0).trans h.v, h.hr, h.hk, h.hn, h.hv⟩

set_option maxHeartbeats 2000000 in
/-- behind a function's body. -/
theorem fun_back3 (g : Nat) (lb : Array Value) (eg : ∀ args w, (callFunc g args).run Tryz.prog w = .ok (.enter g args) w) (R : Int → World → Prop) (bk bn bv bp bt : Nat) (nm vr : ByteArray) (vp1 : Option Addr) (vp2 vp3 : Nat) (k : Int) (f n : ByteArray) (va1 : Option Addr) (va2 va3 : Nat) (k' n' : Int) (f' s' : ByteArray) (ve1 : Option Addr) (ve2 ve3 : Nat) (W : World)
    (ck : W.cell? ⟨bk, 0, none⟩ = some (.func (.func g) #[] lb)) (cn : W.cell? ⟨bn, 0, none⟩ = some (.string nm)) (cv : W.cell? ⟨bv, 0, none⟩ = some (.string vr)) (cp : W.cell? ⟨bp, 0, none⟩ = some (.slice vp1 vp2 vp3))
    (t0 : W.cell? ⟨bt, 0, none⟩ = some (.int .i64 k)) (t1 : W.cell? ⟨bt, 1, none⟩ = some (.string f)) (t2 : W.cell? ⟨bt, 2, none⟩ = some (.string n)) (t3 : W.cell? ⟨bt, 3, none⟩ = some (.slice va1 va2 va3))
    (h : Calls Tryz.prog g (#[.agg #[.string nm, .string vr, .slice vp1 vp2 vp3, .int .i64 k, .string f, .string n, .slice va1 va2 va3, .int .i64 k', .int .i64 n', .string f', .string s', .slice ve1 ve2 ve3]] ++ lb) (W.alloc (.cells #[.int .i64 k', .int .i64 n', .string f', .string s', .slice ve1 ve2 ve3] 87)) (Ends R)) :
    Calls Tryz.prog 203 #[.agg #[.int .i64 k', .int .i64 n', .string f', .string s', .slice ve1 ve2 ve3], .pointer (some ⟨bk, 0, none⟩), .pointer (some ⟨bn, 0, none⟩), .pointer (some ⟨bv, 0, none⟩), .pointer (some ⟨bp, 0, none⟩), .pointer (some ⟨bt, 0, none⟩)] W (Ends R) := by
  have HK := veil h
  have hbk : bk < W.heap.size := World.block_lt_of_cell? W _ ck
  have hbn : bn < W.heap.size := World.block_lt_of_cell? W _ cn
  have hbv : bv < W.heap.size := World.block_lt_of_cell? W _ cv
  have hbp : bp < W.heap.size := World.block_lt_of_cell? W _ cp
  have hbt : bt < W.heap.size := World.block_lt_of_cell? W _ t0
  clear h
  go_enter Tryz.func203, Tryz.ntmps203
  go_wp2_with fail
  refine HK.out.mono ?_
  rintro e w' ⟨y, rfl, hy⟩
  have HY := veil hy
  clear hy
  go_wp2_with fail
  go_ret
  exact ⟨_, rfl, HY.out⟩

set_option maxHeartbeats 4000000 in
/-- behind a function's result. -/
theorem fun_back2 (B : Nat) (l : Toks) (j n0 : Nat) (g : Nat) (lb : Array Value) (eg : ∀ args w, (callFunc g args).run Tryz.prog w = .ok (.enter g args) w) (R : Int → World → Prop) (br bk bn bv bp : Nat) (nm vr : ByteArray) (ps : List Fd) (t : Ty) (vp1 : Option Addr) (vp2 vp3 : Nat) (k : Int) (f n : ByteArray) (va1 : Option Addr) (va2 va3 : Nat) (W : World)
    (hr : RdAt B l j W) (hBn : B < n0) (hnW : n0 ≤ W.heap.size) (hbx : FBox B br bk bn bv g lb nm vr W) (cp : W.cell? ⟨bp, 0, none⟩ = some (.slice vp1 vp2 vp3)) (hbp : B < bp) (hnm : nm.size ≤ maxLen) (hvr : vr.size ≤ maxLen)
    (hps : SlAt (Fresh n0 W) (FdAt (Fresh n0 W) W) 5 ps (.slice vp1 vp2 vp3)) (ht : TyCs (Fresh n0 W) W t k f n (.slice va1 va2 va3))
    (hno : sgn l j [61] = false → ∀ w', Moved B W w' → R 4 w')
    (hbad : sgn l j [61] = true → ∀ e, pEx l 40 (j + 1) = .bad e → ∀ w', Moved B W w' → R e w')
    (hok : sgn l j [61] = true → ∀ x j', pEx l 40 (j + 1) = .ok x j' → ∀ w' v, Moved B W w' → RdAt B l j' w' → FuIs (Fresh n0 w') w' ⟨nm, vr, ps, t, x⟩ v → Calls Tryz.prog g (#[v] ++ lb) w' (Ends R)) :
    Calls Tryz.prog 201 #[.agg #[.int .i64 k, .string f, .string n, .slice va1 va2 va3], .pointer (some ⟨br, 0, none⟩), .pointer (some ⟨bk, 0, none⟩), .pointer (some ⟨bn, 0, none⟩), .pointer (some ⟨bv, 0, none⟩), .pointer (some ⟨bp, 0, none⟩)] W (Ends R) := by
  have hlt := rd_lt hr
  have hbpW : bp < W.heap.size := World.block_lt_of_cell? W _ cp
  have hal : Below W.heap.size W (W.alloc (.cells #[.int .i64 k, .string f, .string n, .slice va1 va2 va3] 84)) := (Below.refl _ _).alloc (Nat.le_refl _) _
  have hm0 : Moved B W (W.alloc (.cells #[.int .i64 k, .string f, .string n, .slice va1 va2 va3] 84)) := Moved.of_below hal (by omega)
  have HM0 := veil hm0
  have HR0 := veil (rd_below hr hal)
  have hbx0 := hbx.keep hm0
  have cr := hbx0.r
  have HBx := veil hbx
  have HCp := veil cp
  have HPs := veil hps
  have HT := veil ht
  have HNo := veil hno
  have HBad := veil hbad
  have HOk := veil hok
  have HEg := veil eg
  have HNm := veil hnm
  have HVr := veil hvr
  have hef := makeFunc_run
  clear hr hbx cp hps ht hno hbad hok eg hnm hvr hal hm0 hbx0
  go_enter Tryz.func201, Tryz.ntmps201
  go_wp2_with fail
  refine (sign_next B l j ⟨#[61]⟩ _ HR0.out).mono ?_
  rintro e w1 ⟨rfl, q1, q2⟩
  have hm1 := HM0.out.trans q2
  have HM1 := veil hm1
  have hsz1 : W.heap.size + 1 ≤ w1.heap.size := by have := q2.below.size; simpa using this
  cases hs : sgn l j [61]
  · have hs' : sgn l j (ByteArray.mk #[61]).data.toList = false := hs
    have HB := veil (HNo.out hs w1 hm1)
    try rw [hs']
    clear q1 q2 hs hs' hm1 cr
    go_wp2_with fail
    go_ret
    exact ⟨_, rfl, HB.out⟩
  · have hs' : sgn l j (ByteArray.mk #[61]).data.toList = true := hs
    rw [hs'] at q1
    have q1' : RdAt B l (j + 1) w1 := q1
    have b0 : w1.cell? ⟨W.heap.size, 0, none⟩ = some (.int .i64 k) := (q2.cell (by omega) (by simp) 0).trans (World.cell?_alloc_at _ _ _ _ rfl)
    have b1 : w1.cell? ⟨W.heap.size, 1, none⟩ = some (.string f) := (q2.cell (by omega) (by simp) 1).trans (World.cell?_alloc_at _ _ _ _ rfl)
    have b2 : w1.cell? ⟨W.heap.size, 2, none⟩ = some (.string n) := (q2.cell (by omega) (by simp) 2).trans (World.cell?_alloc_at _ _ _ _ rfl)
    have b3 : w1.cell? ⟨W.heap.size, 3, none⟩ = some (.slice va1 va2 va3) := (q2.cell (by omega) (by simp) 3).trans (World.cell?_alloc_at _ _ _ _ rfl)
    have cE := expr_next 40 1 rfl B l (j + 1) w1 203 #[.pointer (some ⟨bk, 0, none⟩), .pointer (some ⟨bn, 0, none⟩), .pointer (some ⟨bv, 0, none⟩), .pointer (some ⟨bp, 0, none⟩), .pointer (some ⟨W.heap.size, 0, none⟩)] (enters_of Tryz.func203 (by kernel_rfl) rfl) R q1'
      (fun e he w' hm' => HBad.out hs e he w' (hm1.trans hm'))
      (fun x j' hx w' v hm' hr' hv => by
        obtain ⟨k', n', f', s', va, rfl, hcs⟩ := hv
        obtain ⟨ve1, ve2, ve3, rfl⟩ := hcs.slice
        have hm2 := hm1.trans hm'
        have hbx' := HBx.out.keep hm2
        have hsz' := hm'.below.size
        have hal3 : Below w'.heap.size w' (w'.alloc (.cells #[.int .i64 k', .int .i64 n', .string f', .string s', .slice ve1 ve2 ve3] 87)) := (Below.refl _ _).alloc (Nat.le_refl _) _
        have hm3 : Moved B w' (w'.alloc (.cells #[.int .i64 k', .int .i64 n', .string f', .string s', .slice ve1 ve2 ve3] 87)) := Moved.of_below hal3 (by omega)
        refine fun_back3 g lb HEg.out R bk bn bv bp W.heap.size nm vr vp1 vp2 vp3 k f n va1 va2 va3 k' n' f' s' ve1 ve2 ve3 w' hbx'.k hbx'.n hbx'.v ((hm2.cell hbp hbpW 0).trans HCp.out) ((hm'.cell (by omega) (by omega) 0).trans b0) ((hm'.cell (by omega) (by omega) 1).trans b1) ((hm'.cell (by omega) (by omega) 2).trans b2) ((hm'.cell (by omega) (by omega) 3).trans b3) ?_
        have hk1 := fresh_keeps hBn (hm2.trans hm3)
        refine HOk.out hs x j' hx _ _ (hm2.trans hm3) (rd_below hr' hal3) ⟨_, k, f, n, _, k', n', f', s', _, rfl, HNm.out, HVr.out, fdSl_keep hk1 HPs.out, HT.out.keep hk1, ?_⟩
        exact hcs.keep ⟨fun b hb => hm3.above b (by have := hb.1; omega) hb.2, fun b hb => ⟨by have := hb.1; omega, Nat.lt_of_lt_of_le hb.2 hal3.size⟩⟩)
    have HCE := veil cE
    have cr1 := (HBx.out.keep hm1).r
    try rw [hs']
    clear q1 q1' q2 hs hs' hm1 cE cr b0 b1 b2 b3
    go_wp2_with fail
    refine HCE.out.mono ?_
    rintro e w' ⟨y, rfl, hy⟩
    have HY := veil hy
    clear hy
    go_wp2_with fail
    go_ret
    exact ⟨_, rfl, HY.out⟩

set_option maxHeartbeats 4000000 in
/-- behind a function's params. -/
theorem fun_back1 (B : Nat) (l : Toks) (j n0 : Nat) (g : Nat) (lb : Array Value) (eg : ∀ args w, (callFunc g args).run Tryz.prog w = .ok (.enter g args) w) (R : Int → World → Prop) (br bk bn bv : Nat) (nm vr : ByteArray) (ps : List Fd) (vp1 : Option Addr) (vp2 vp3 : Nat) (W : World)
    (hr : RdAt B l j W) (hBn : B < n0) (hnW : n0 ≤ W.heap.size) (hbx : FBox B br bk bn bv g lb nm vr W) (hnm : nm.size ≤ maxLen) (hvr : vr.size ≤ maxLen)
    (hps : SlAt (Fresh n0 W) (FdAt (Fresh n0 W) W) 5 ps (.slice vp1 vp2 vp3))
    (hno : sgn l j [58] = false → ∀ w', Moved B W w' → R 4 w')
    (hbadT : sgn l j [58] = true → ∀ e, pTy l 40 (j + 1) = .bad e → ∀ w', Moved B W w' → R e w')
    (hno2 : sgn l j [58] = true → ∀ t j2, pTy l 40 (j + 1) = .ok t j2 → sgn l j2 [61] = false → ∀ w', Moved B W w' → R 4 w')
    (hbad : sgn l j [58] = true → ∀ t j2, pTy l 40 (j + 1) = .ok t j2 → sgn l j2 [61] = true → ∀ e, pEx l 40 (j2 + 1) = .bad e → ∀ w', Moved B W w' → R e w')
    (hok : sgn l j [58] = true → ∀ t j2, pTy l 40 (j + 1) = .ok t j2 → sgn l j2 [61] = true → ∀ x j', pEx l 40 (j2 + 1) = .ok x j' → ∀ w' v, Moved B W w' → RdAt B l j' w' → FuIs (Fresh n0 w') w' ⟨nm, vr, ps, t, x⟩ v → Calls Tryz.prog g (#[v] ++ lb) w' (Ends R)) :
    Calls Tryz.prog 200 #[.slice vp1 vp2 vp3, .pointer (some ⟨br, 0, none⟩), .pointer (some ⟨bk, 0, none⟩), .pointer (some ⟨bn, 0, none⟩), .pointer (some ⟨bv, 0, none⟩)] W (Ends R) := by
  have hlt := rd_lt hr
  have hal : Below W.heap.size W (W.alloc (.cells #[.slice vp1 vp2 vp3] 41)) := (Below.refl _ _).alloc (Nat.le_refl _) _
  have hm0 : Moved B W (W.alloc (.cells #[.slice vp1 vp2 vp3] 41)) := Moved.of_below hal (by omega)
  have HM0 := veil hm0
  have HR0 := veil (rd_below hr hal)
  have hbx0 := hbx.keep hm0
  have cr := hbx0.r
  have HBx := veil hbx
  have HPs := veil hps
  have HNo := veil hno
  have HBadT := veil hbadT
  have HNo2 := veil hno2
  have HBad := veil hbad
  have HOk := veil hok
  have HEg := veil eg
  have HNm := veil hnm
  have HVr := veil hvr
  have hef := makeFunc_run
  clear hr hbx hps hno hbad hok eg hnm hvr hal hm0 hbx0 hbadT hno2
  go_enter Tryz.func200, Tryz.ntmps200
  go_wp2_with fail
  refine (sign_next B l j ⟨#[58]⟩ _ HR0.out).mono ?_
  rintro e w1 ⟨rfl, q1, q2⟩
  have hm1 := HM0.out.trans q2
  have HM1 := veil hm1
  have hsz1 : W.heap.size + 1 ≤ w1.heap.size := by have := q2.below.size; simpa using this
  cases hs : sgn l j [58]
  · have hs' : sgn l j (ByteArray.mk #[58]).data.toList = false := hs
    have HB := veil (HNo.out hs w1 hm1)
    try rw [hs']
    clear q1 q2 hs hs' hm1 cr
    go_wp2_with fail
    go_ret
    exact ⟨_, rfl, HB.out⟩
  · have hs' : sgn l j (ByteArray.mk #[58]).data.toList = true := hs
    rw [hs'] at q1
    have q1' : RdAt B l (j + 1) w1 := q1
    have b0 : w1.cell? ⟨W.heap.size, 0, none⟩ = some (.slice vp1 vp2 vp3) := (q2.cell (by omega) (by simp) 0).trans (World.cell?_alloc_at _ _ _ _ rfl)
    have cT := typ_next 40 1 rfl B l (j + 1) w1 201 #[.pointer (some ⟨br, 0, none⟩), .pointer (some ⟨bk, 0, none⟩), .pointer (some ⟨bn, 0, none⟩), .pointer (some ⟨bv, 0, none⟩), .pointer (some ⟨W.heap.size, 0, none⟩)] (enters_of Tryz.func201 (by kernel_rfl) rfl) R q1'
      (fun e he w' hm' => HBadT.out hs e he w' (hm1.trans hm'))
      (fun t j2 hty w' v hm' hr' hv => by
        obtain ⟨k, f, n, va, rfl, hcs⟩ := hv
        obtain ⟨va1, va2, va3, rfl⟩ := hcs.slice
        have hm2 := hm1.trans hm'
        have hsz' := hm'.below.size
        have hk1 := fresh_keeps hBn hm2
        exact fun_back2 B l j2 n0 g lb HEg.out R br bk bn bv W.heap.size nm vr ps t vp1 vp2 vp3 k f n va1 va2 va3 w' hr' hBn (by omega) (HBx.out.keep hm2) ((hm'.cell (by omega) (by omega) 0).trans b0) (by omega) HNm.out HVr.out (fdSl_keep hk1 HPs.out)
          (hcs.keep ⟨fun _ _ => rfl, fun b hb => ⟨by have := hb.1; omega, hb.2⟩⟩)
          (fun h2 w'' hm'' => HNo2.out hs t j2 hty h2 w'' (hm2.trans hm''))
          (fun h2 e he w'' hm'' => HBad.out hs t j2 hty h2 e he w'' (hm2.trans hm''))
          (fun h2 x j' hx w'' v' hm'' hr'' hv' => HOk.out hs t j2 hty h2 x j' hx w'' v' (hm2.trans hm'') hr'' hv'))
    have HCT := veil cT
    have cr1 := (HBx.out.keep hm1).r
    try rw [hs']
    clear q1 q1' q2 hs hs' hm1 cT cr b0
    go_wp2_with fail
    refine HCT.out.mono ?_
    rintro e w' ⟨y, rfl, hy⟩
    have HY := veil hy
    clear hy
    go_wp2_with fail
    go_ret
    exact ⟨_, rfl, HY.out⟩

end Go.Proofs.YtagbaimfigljiaaGreatDoor
namespace Go.Proofs.YtagbaimfigljiaaGreatDoor
open Go.RowKit
set_option maxRecDepth 100000

def FunReads : Prop := ∀ (B : Nat) (l : Toks) (i : Nat) (w : World) (g : Nat) (lb : Array Value), (∀ args w, (callFunc g args).run Tryz.prog w = .ok (.enter g args) w) → ∀ (R : Int → World → Prop), RdAt B l i w →
    (∀ e, pFun l i = .bad e → ∀ w', Moved B w w' → R e w') →
    (∀ x j, pFun l i = .ok x j → ∀ w' v, Moved B w w' → RdAt B l j w' → FuIs (Fresh w.heap.size w') w' x v → Calls Tryz.prog g (#[v] ++ lb) w' (Ends R)) →
    Calls Tryz.prog 125 #[.pointer (some ⟨B, 0, none⟩), .func (.func g) #[] lb] w (Ends R)

set_option maxHeartbeats 4000000 in
theorem fun_next : FunReads := by
  intro B l i w g lb eg R hr hbad hok
  have hlt := rd_lt hr
  have hal : Below w.heap.size w ((w.alloc (.cells #[.pointer (some ⟨B, 0, none⟩)] 179)).alloc (.cells #[.func (.func g) #[] lb] 158)) := ((Below.refl _ _).alloc (Nat.le_refl _) _).alloc (by simp) _
  have hm0 : Moved B w ((w.alloc (.cells #[.pointer (some ⟨B, 0, none⟩)] 179)).alloc (.cells #[.func (.func g) #[] lb] 158)) := Moved.of_below hal (by omega)
  have hw0 : ∃ wa, ((w.alloc (.cells #[.pointer (some ⟨B, 0, none⟩)] 179)).alloc (.cells #[.func (.func g) #[] lb] 158)) = wa ∧ wa.cell? ⟨w.heap.size, 0, none⟩ = some (.pointer (some ⟨B, 0, none⟩)) ∧ wa.cell? ⟨w.heap.size + 1, 0, none⟩ = some (.func (.func g) #[] lb) ∧ wa.heap.size = w.heap.size + 2 :=
    ⟨_, rfl, (World.cell?_alloc_old _ _ _ (by simp)).trans (World.cell?_alloc_at _ _ _ _ rfl), World.cell?_alloc_at _ _ _ _ (by simp), by simp⟩
  have hra := rd_below hr hal
  obtain ⟨wa, hwa, a0, a1, hsa⟩ := hw0
  rw [hwa] at hm0 hra
  have HM0 := veil hm0
  have HR0 := veil hra
  have HBad := veil hbad
  have HOk := veil hok
  have HEg := veil eg
  have hef := makeFunc_run
  have HXa := veil (show ∀ W, Moved B wa W → W.cell? ⟨w.heap.size, 0, none⟩ = some (.pointer (some ⟨B, 0, none⟩)) ∧ W.cell? ⟨w.heap.size + 1, 0, none⟩ = some (.func (.func g) #[] lb) from fun W h => ⟨(h.cell (by omega) (by omega) 0).trans a0, (h.cell (by omega) (by omega) 0).trans a1⟩)
  clear hbad hok hr hal eg hm0 hra
  go_enter Tryz.func125, Tryz.ntmps125
  go_wp2_with fail
  try rw [hwa]
  refine (ident_next B l i _ HR0.out).mono ?_
  rintro e w1 ⟨hm, ⟨hi, t, i', rfl, hr⟩ | ⟨t, hi, hok, rfl, hr⟩⟩
  · have hsz1 : w.heap.size + 2 ≤ w1.heap.size := by have := hm.below.size; omega
    have HB := veil (HBad.out 4 (by unfold pFun; rw [hi]) (w1.alloc (.cells #[.string t] 9)) ((HM0.out.trans hm).alloc (by omega) _))
    clear hm hi hr HBad HOk hwa a0 a1
    go_wp2_with fail
    go_ret
    exact ⟨_, rfl, HB.out⟩
  · have hsz1 : w.heap.size + 2 ≤ w1.heap.size := by have := hm.below.size; omega
    have HI := veil hi
    have HTs := veil (ident_le hok)
    obtain ⟨p0, p1⟩ := HXa.out w1 hm
    have hal2 : Below w1.heap.size w1 (w1.alloc (.cells #[.string t] 9)) := (Below.refl _ _).alloc (Nat.le_refl _) _
    have hw2 : ∃ w2, w1.alloc (.cells #[.string t] 9) = w2 ∧ w2.cell? ⟨w.heap.size, 0, none⟩ = some (.pointer (some ⟨B, 0, none⟩)) ∧ w2.cell? ⟨w.heap.size + 1, 0, none⟩ = some (.func (.func g) #[] lb) ∧ w2.cell? ⟨w1.heap.size, 0, none⟩ = some (.string t) ∧ w2.heap.size = w1.heap.size + 1 :=
      ⟨_, rfl, (World.cell?_alloc_old _ _ _ (by show w.heap.size ≠ _; omega)).trans p0, (World.cell?_alloc_old _ _ _ (by show w.heap.size + 1 ≠ _; omega)).trans p1, World.cell?_alloc_at _ _ _ _ rfl, by simp⟩
    have hm2 : Moved B w (w1.alloc (.cells #[.string t] 9)) := (HM0.out.trans hm).trans (Moved.of_below hal2 (by omega))
    have hr2 := rd_below hr hal2
    obtain ⟨w2, hwe, x0, x1, x2, hs2⟩ := hw2
    rw [hwe] at hm2 hr2
    have HM2 := veil hm2
    have HR2 := veil hr2
    have HX2 := veil (show ∀ W, Moved B w2 W → W.cell? ⟨w.heap.size, 0, none⟩ = some (.pointer (some ⟨B, 0, none⟩)) ∧ W.cell? ⟨w.heap.size + 1, 0, none⟩ = some (.func (.func g) #[] lb) ∧ W.cell? ⟨w1.heap.size, 0, none⟩ = some (.string t) from fun W h => ⟨(h.cell (by omega) (by omega) 0).trans x0, (h.cell (by omega) (by omega) 0).trans x1, (h.cell (by omega) (by omega) 0).trans x2⟩)
    clear hm hi hr hok hal2 hm2 hr2 p0 p1 a0 a1 hwa HXa HR0
    go_wp2_with fail
    try rw [hwe]
    refine (variable_next B l (i + 1) _ HR2.out).mono ?_
    rintro e w3 ⟨hm, ⟨hv, vt, rfl⟩ | ⟨vt, j, hv, hvs, rfl, hr⟩⟩
    · have hsz3 := hm.below.size
      have HB := veil (HBad.out 4 (by unfold pFun; simp only [HI.out, hv]) (w3.alloc (.cells #[.string vt] 9)) ((HM2.out.trans hm).alloc (by omega) _))
      clear hm hv HBad HOk hwe x0 x1 x2
      go_wp2_with fail
      go_ret
      exact ⟨_, rfl, HB.out⟩
    · have hsz3 := hm.below.size
      have HV := veil hv
      have HVs := veil hvs
      obtain ⟨p0, p1, p2⟩ := HX2.out w3 hm
      have hal4 : Below w3.heap.size w3 (w3.alloc (.cells #[.string vt] 9)) := (Below.refl _ _).alloc (Nat.le_refl _) _
      have hm4 : Moved B w (w3.alloc (.cells #[.string vt] 9)) := (HM2.out.trans hm).trans (Moved.of_below hal4 (by omega))
      have hr4 := rd_below hr hal4
      have hw4 : ∃ w4, w3.alloc (.cells #[.string vt] 9) = w4 ∧ FBox B w.heap.size (w.heap.size + 1) w1.heap.size w3.heap.size g lb t vt w4 ∧ w4.heap.size = w3.heap.size + 1 :=
        ⟨_, rfl, ⟨(World.cell?_alloc_old _ _ _ (by show w.heap.size ≠ _; omega)).trans p0, (World.cell?_alloc_old _ _ _ (by show w.heap.size + 1 ≠ _; omega)).trans p1, (World.cell?_alloc_old _ _ _ (by show w1.heap.size ≠ _; omega)).trans p2, World.cell?_alloc_at _ _ _ _ rfl, by omega, by omega, by omega, by omega⟩, by simp⟩
      obtain ⟨w4, hwf, hbx, hs4⟩ := hw4
      rw [hwf] at hm4 hr4
      have HM4 := veil hm4
      have HR4 := veil hr4
      have HBx := veil hbx
      have c0 := hbx.r
      clear hm hv hr hvs hal4 hm4 hr4 p0 p1 p2 x0 x1 x2 hwe HX2 HR2 hbx
      go_wp2_with fail
      try rw [hwf]
      refine (sign_next B l j ⟨#[40]⟩ _ HR4.out).mono ?_
      rintro e w5 ⟨rfl, q1, q2⟩
      have HN5 := veil q2
      have HM5 := veil (HM4.out.trans q2)
      have hsz5 := q2.below.size
      cases hs : sgn l j [40]
      · have hs' : sgn l j (ByteArray.mk #[40]).data.toList = false := hs
        have HB := veil (HBad.out 4 (by unfold pFun; simp only [HI.out, HV.out, hs]; rfl) w5 HM5.out)
        try rw [hs']
        clear q1 q2 hs hs' HBad HOk hwf c0
        go_wp2_with fail
        go_ret
        exact ⟨_, rfl, HB.out⟩
      · have hs' : sgn l j (ByteArray.mk #[40]).data.toList = true := hs
        rw [hs'] at q1
        have q1' : RdAt B l (j + 1) w5 := q1
        have cP := params_next B l (j + 1) w5 200 #[.pointer (some ⟨w.heap.size, 0, none⟩), .pointer (some ⟨w.heap.size + 1, 0, none⟩), .pointer (some ⟨w1.heap.size, 0, none⟩), .pointer (some ⟨w3.heap.size, 0, none⟩)] (enters_of Tryz.func200 (by kernel_rfl) rfl) R q1'
          (fun e he w' hm' => HBad.out e (by unfold pFun; simp only [HI.out, HV.out, hs, he]; rfl) w' (HM5.out.trans hm'))
          (fun ps j1 hp w' v hm' hr' hv => by
            obtain ⟨vp1, vp2, vp3, rfl⟩ := hv.slice
            have hsz' := hm'.below.size
            have hm6 := HM5.out.trans hm'
            exact fun_back1 B l j1 w.heap.size g lb HEg.out R _ _ _ _ t vt ps vp1 vp2 vp3 w' hr' hlt (by omega) (HBx.out.keep (HN5.out.trans hm')) HTs.out HVs.out
              (fdSl_keep ⟨fun _ _ => rfl, fun b hb => ⟨by have := hb.1; omega, hb.2⟩⟩ hv)
              (fun h1 w'' hm'' => HBad.out 4 (by unfold pFun; simp only [HI.out, HV.out, hs, hp, h1]; rfl) w'' (hm6.trans hm''))
              (fun h1 e he w'' hm'' => HBad.out e (by unfold pFun; simp only [HI.out, HV.out, hs, hp, h1, he]; rfl) w'' (hm6.trans hm''))
              (fun h1 ty j2 hty h2 w'' hm'' => HBad.out 4 (by unfold pFun; simp only [HI.out, HV.out, hs, hp, h1, hty, h2]; rfl) w'' (hm6.trans hm''))
              (fun h1 ty j2 hty h2 e he w'' hm'' => HBad.out e (by unfold pFun; simp only [HI.out, HV.out, hs, hp, h1, hty, h2, he]; rfl) w'' (hm6.trans hm''))
              (fun h1 ty j2 hty h2 x j' hx w'' v' hm'' hr'' hv' => HOk.out _ j' (by unfold pFun; simp only [HI.out, HV.out, hs, hp, h1, hty, h2, hx]; rfl) w'' v' (hm6.trans hm'') hr'' hv'))
        have HCP := veil cP
        have c5 := (HBx.out.keep HN5.out).r
        try rw [hs']
        clear q1 q1' q2 hs hs' HBad HOk hwf c0 cP
        go_wp2_with fail
        refine HCP.out.mono ?_
        rintro e w' ⟨y, rfl, hy⟩
        have HY := veil hy
        clear hy
        go_wp2_with fail
        go_ret
        exact ⟨_, rfl, HY.out⟩

end Go.Proofs.YtagbaimfigljiaaGreatDoor
namespace Go.Proofs.YtagbaimfigljiaaGreatDoor
open Go.RowKit
set_option maxRecDepth 100000

def allSigns : List UInt8 := [61, 40, 41, 91, 93, 44, 43, 46, 58, 60, 62]
def signOk (s : ByteArray) : Bool := match s.data.toList with
  | [b] => allSigns.contains b
  | _ => false

set_option maxHeartbeats 400000 in
theorem indexByte_lite (s : ByteArray) (c : Int) (w : World) :
    Calls Tryz.prog 256 #[.string s, .int .u8 c] w fun e w' => e = .returned (.int .i64 (Lib.indexByte s.data.toList c.toNat.toUInt8)) ∧ w = w' := by
  go_enter Tryz.func256, Tryz.ntmps256
  go_wp2
  rw [run_callFunc_extern Tryz.func309 (by kernel_rfl) (by kernel_rfl) (by kernel_rfl) (e := Extern.BytealgIndexByte.indexByte) (by kernel_rfl), Lib.run_indexByteString]
  simp only [Result.andThen]
  rw [Oper.upon_value]
  go_wp2
  go_ret
  exact ⟨rfl, rfl⟩

theorem indexByte_any (s : ByteArray) (c : Int) (w : World) :
    Calls Tryz.prog 179 #[.string s, .int .u8 c] w fun e w' => e = .returned (.int .i64 (Lib.indexByte s.data.toList c.toNat.toUInt8)) ∧ w = w' := by
  go_enter Tryz.func179, Tryz.ntmps179
  go_wp2_with (go_at_call 256; refine (indexByte_lite _ _ _).mono ?_; rintro e w' ⟨rfl, rfl⟩)
  go_ret
  exact ⟨rfl, rfl⟩

theorem signTest (s : ByteArray) (k : Nat) (hk : k < 11) :
    (s.toList == ((ByteArray.mk #[61, 40, 41, 91, 93, 44, 43, 46, 58, 60, 62]).extract k (k + 1)).toList) = (s.data.toList == [allSigns.getD k 0]) := by
  rw [Lib.toList_data, Lib.toList_data, Lib.extract_data]
  have e : k + 1 - k = 1 := by omega
  rw [e]
  match k, hk with
  | 0, _ => rfl
  | 1, _ => rfl
  | 2, _ => rfl
  | 3, _ => rfl
  | 4, _ => rfl
  | 5, _ => rfl
  | 6, _ => rfl
  | 7, _ => rfl
  | 8, _ => rfl
  | 9, _ => rfl
  | 10, _ => rfl

theorem sign_hit (s : ByteArray) (k : Nat) (hk : k < 11) (h : (s.data.toList == [allSigns.getD k 0]) = true) : signOk s = true := by
  have h' : s.data.toList = [allSigns.getD k 0] := by simpa using h
  unfold signOk
  rw [h']
  match k, hk with
  | 0, _ => rfl
  | 1, _ => rfl
  | 2, _ => rfl
  | 3, _ => rfl
  | 4, _ => rfl
  | 5, _ => rfl
  | 6, _ => rfl
  | 7, _ => rfl
  | 8, _ => rfl
  | 9, _ => rfl
  | 10, _ => rfl

theorem sign_miss (s : ByteArray) (h : ∀ j, j < 11 → s.data.toList ≠ [allSigns.getD j 0]) : signOk s = false := by
  unfold signOk
  split
  · rename_i b e
    rw [e] at h
    cases hb : allSigns.contains b with
    | false => rfl
    | true =>
      exfalso
      rw [List.contains_iff_mem] at hb
      obtain ⟨i, hi, hb'⟩ := List.mem_iff_getElem.1 hb
      refine h i hi ?_
      rw [← hb', List.getD_eq_getElem?_getD, List.getElem?_eq_getElem hi]
      rfl
  · rfl

set_option maxHeartbeats 400000 in
theorem signMay_any (s : ByteArray) (w : World) : Calls Tryz.prog 212 #[.string s] w fun e w' => e = .returned (.bool (signOk s)) ∧ w = w' := by
  go_enter Tryz.func212, Tryz.ntmps212
  go_wp2
  go_loop [4] (fun i => ∃ k : Nat, k ≤ 11 ∧ i = .int .i64 k ∧ ∀ j, j < k → s.data.toList ≠ [allSigns.getD j 0]) (fun i => 11 - (intOf i).toNat)
  case atStart => exact ⟨0, Nat.zero_le _, rfl, fun j h => absurd h (by omega)⟩
  case round =>
    obtain ⟨k, hk, rfl, hall⟩ := hrel
    have HA : Hid (∀ j, j < k → s.data.toList ≠ [allSigns.getD j 0]) := hall
    clear hall
    by_cases hlt : k < 11
    · have ht := signTest s k hlt
      cases ht' : (s.data.toList == [allSigns.getD k 0])
      · rw [ht'] at ht
        have HN : Hid (∀ j, j < k + 1 → s.data.toList ≠ [allSigns.getD j 0]) := fun j hj => by
          by_cases e : j = k
          · rw [e]; simpa using ht'
          · exact HA.out j (by omega)
        clear ht'
        go_wp2
        go_round
        case rel => exact ⟨k + 1, by omega, by go_num, HN.out⟩
        case measure => simp [intOf]; omega
      · rw [ht'] at ht
        have HF := veil (sign_hit s k hlt ht')
        clear ht'
        go_wp2
        go_ret
        exact ⟨by rw [HF.out]; rfl, rfl⟩
    · have HF := veil (sign_miss s fun j hj => HA.out j (by omega))
      go_wp2
      go_ret
      exact ⟨by rw [HF.out]; rfl, rfl⟩

theorem sign_one (s : ByteArray) (h : s.size = 1) (hp : 0 < s.size) : signOk s = decide ((0 : Int) ≤ Lib.indexByte [61, 40, 41, 91, 93, 44, 43, 46, 58, 60, 62] (s[0]'hp)) := by
  obtain ⟨⟨l⟩⟩ := s
  have hl : l.length = 1 := h
  match l, hl with
  | [b], _ =>
    rw [← Lib.contains_iff_indexByte]
    rfl

theorem sign_many (s : ByteArray) (h : s.size ≠ 1) : signOk s = false := by
  obtain ⟨⟨l⟩⟩ := s
  have hl : l.length ≠ 1 := h
  match l, hl with
  | [], _ => rfl
  | [b], hl => exact absurd rfl hl
  | a :: b :: l, _ => rfl

set_option maxHeartbeats 400000 in
theorem sign_any (s : ByteArray) (w : World) : Calls Tryz.prog 267 #[.string s] w fun e w' => e = .returned (.bool (signOk s)) ∧ w = w' := by
  by_cases h : s.size = 1
  · have h' : (((s.size : Nat) : Int) == 1) = true := by simp [h]
    have hpos : 0 < s.size := by omega
    have HF := veil (sign_one s h hpos)
    clear h
    go_enter Tryz.func267, Tryz.ntmps267
    go_wp2_with (go_at_call 179; refine (indexByte_any _ _ _).mono ?_; rintro e w' ⟨rfl, rfl⟩)
    go_ret
    exact ⟨by rw [HF.out]; rfl, rfl⟩
  · have h' : (((s.size : Nat) : Int) == 1) = false := by rw [beq_eq_false_iff_ne]; omega
    have HF := veil (sign_many s h)
    clear h
    go_enter Tryz.func267, Tryz.ntmps267
    go_wp2
    go_ret
    exact ⟨by rw [HF.out]; rfl, rfl⟩

end Go.Proofs.YtagbaimfigljiaaGreatDoor
