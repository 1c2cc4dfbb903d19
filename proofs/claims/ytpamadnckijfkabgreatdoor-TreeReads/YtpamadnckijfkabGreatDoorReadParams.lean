/- What the reader's params answers, at every reader and every way back: the fields that are next, handed to the way back; or what is wrong first. -/
import Derived.Test.YtpamadnckijfkabGreatDoorReadArgs
import Derived.Test.YtpamadnckijfkabGreatDoorReadNextF
namespace Go.Proofs.YtpamadnckijfkabGreatDoor
open Go.RowKit
set_option maxRecDepth 100000

theorem pTy_adv {l : Toks} : ∀ (f i : Nat) (t : Ty) (j : Nat), pTy l f i = .ok t j → i ≤ j
  | 0, _, _, _, h => by rw [pTy] at h; cases h
  | f + 1, i, t, j, h => by
    rw [pTy] at h
    split at h
    · injection h with _ h; omega
    · split at h
      · injection h with _ h; omega
      · split at h
        · split at h
          · cases h
          · rename_i hk
            have := pTy_adv f _ _ _ hk
            split at h
            · injection h with _ h; omega
            · cases h
        · split at h
          · cases h
          · rename_i hk
            have := nameAt_adv hk
            injection h with _ h; omega

theorem pNamed_adv {l : Toks} {s : List UInt8} {i : Nat} {x : Fd} {j : Nat} (h : pNamed l s i = .ok x j) : i ≤ j := by
  unfold pNamed at h
  split at h
  · cases h
  · split at h
    · split at h
      · cases h
      · rename_i hk
        have := pTy_adv _ _ _ _ hk
        injection h with _ h; omega
    · cases h

theorem fdL_moved {B base bl n1 : Nat} {xs : List Fd} {la : Option Addr} {cap : Nat} {ys : List Value} {W W' : World} (h : ListOf FdC 63 23 base bl n1 xs la cap ys W) (hm : Moved B W W') (hB : B < bl) (hbl : bl < base) : ListOf FdC 63 23 base bl n1 xs la cap ys W' :=
  ListOf.moved (C := FdC) (fun hk h => fdC_keep hk h) h hm hB hbl

theorem fdL_push {base bl n1 : Nat} {xs : List Fd} {x : Fd} {la : Option Addr} {cap g cap' : Nat} {ys : List Value} {W W' : World} {k : Int} {f s : ByteArray} {va1 : Option Addr} {va2 va3 : Nat} (h : ListOf FdC 63 23 base bl n1 xs la cap ys W) (hbl : bl < base) (hn1 : base ≤ n1) (hnm : x.name.size ≤ maxLen) (hcs : TyCs (Fresh n1 W) W x.is k f s (.slice va1 va2 va3))
    (hg : Grew base bl 63 23 (.slice la xs.length cap) (.slice (some ⟨g, 0, none⟩) (xs.length + 1) cap') (xs.length + 1) (ys ++ [.string x.name, .int .i64 k, .string f, .string s, .slice va1 va2 va3]) W W') :
    ListOf FdC 63 23 base bl W'.heap.size (xs ++ [x]) (some ⟨g, 0, none⟩) cap' (ys ++ [.string x.name, .int .i64 k, .string f, .string s, .slice va1 va2 va3]) W' :=
  ListOf.push (C := FdC) (fun hk h => fdC_keep hk h) h hbl hn1 rfl ⟨_, _, _, _, _, _, rfl, hnm, hcs⟩ hg

theorem fdL_sl {base bl n1 n0 : Nat} {xs : List Fd} {la : Option Addr} {cap : Nat} {ys : List Value} {W : World} (h : ListOf FdC 63 23 base bl n1 xs la cap ys W) (hn0 : n0 ≤ base) (hmax : xs.length ≤ maxLen) : SlAt (Fresh n0 W) (FdAt (Fresh n0 W) W) 5 xs (.slice la xs.length cap) :=
  ListOf.toSl (C := FdC) (P := FdAt) (fun hk h => fdC_keep hk h) (fun h1 h2 h3 => fdC_at h1 h2 h3) h hn0 hmax

set_option maxHeartbeats 8000000 in
theorem nextF_go (B : Nat) (l : Toks) (fin : ByteArray) (w0 Wb : World) (base bl br bo bn be bk g1 g : Nat) (lb1 lb : Array Value) (e1 : ∀ args w, (callFunc g1 args).run Tryz.prog w = .ok (.enter g1 args) w) (eg : ∀ args w, (callFunc g args).run Tryz.prog w = .ok (.enter g args) w) (R : Int → World → Prop)
    (hw0 : Moved B w0 Wb) (hBl : B < bl) (h0l : w0.heap.size ≤ bl) (hbl : bl < base)
    (xr : LBox B bl base br (.pointer (some ⟨B, 0, none⟩)) Wb) (xo : LBox B bl base bo (.func (.func g1) #[] lb1) Wb)
    (xn : LBox B bl base bn (.func (.func 133) #[] #[.pointer (some ⟨bl, 0, none⟩), .pointer (some ⟨br, 0, none⟩), .pointer (some ⟨bo, 0, none⟩), .pointer (some ⟨bn, 0, none⟩), .pointer (some ⟨be, 0, none⟩), .pointer (some ⟨bk, 0, none⟩)]) Wb)
    (xe : LBox B bl base be (.string fin) Wb) (xk : LBox B bl base bk (.func (.func g) #[] lb) Wb)
    (hOne : ∀ (i : Nat) (W : World), RdAt B l i W → Kept B bl base Wb W → ∀ (g' : Nat) (lb' : Array Value), (∀ args w, (callFunc g' args).run Tryz.prog w = .ok (.enter g' args) w) →
      (∀ e, pNamed l [58] i = .bad e → ∀ w', Moved B W w' → R e w') →
      (∀ x j, pNamed l [58] i = .ok x j → ∀ w' v, Moved B W w' → RdAt B l j w' → FdIs (Fresh W.heap.size w') w' x v → Calls Tryz.prog g' (#[v] ++ lb') w' (Ends R)) →
      Calls Tryz.prog g1 (#[.func (.func g') #[] lb'] ++ lb1) W (Ends R)) :
    ∀ (N i : Nat) (x : Fd) (v : Value) (n1 : Nat) (xs : List Fd) (la : Option Addr) (lcap : Nat) (ys : List Value) (W : World), l.length ≤ i + N → xs.length ≤ i → RdAt B l i W → Kept B bl base Wb W → base ≤ n1 → n1 ≤ W.heap.size →
      ListOf FdC 63 23 base bl n1 xs la lcap ys W → FdIs (Fresh n1 W) W x v →
      (∀ e, nextRes (pNamed l [58]) l fin.data.toList N xs x i = .bad e → ∀ w', Moved B w0 w' → R e w') →
      (∀ zs j, nextRes (pNamed l [58]) l fin.data.toList N xs x i = .ok zs j → ∀ w' v', Moved B w0 w' → RdAt B l j w' → SlAt (Fresh w0.heap.size w') (FdAt (Fresh w0.heap.size w') w') 5 zs v' → Calls Tryz.prog g (#[v'] ++ lb) w' (Ends R)) →
      Calls Tryz.prog 133 #[v, .pointer (some ⟨bl, 0, none⟩), .pointer (some ⟨br, 0, none⟩), .pointer (some ⟨bo, 0, none⟩), .pointer (some ⟨bn, 0, none⟩), .pointer (some ⟨be, 0, none⟩), .pointer (some ⟨bk, 0, none⟩)] W (Ends R) := by
  intro N
  induction N with
  | zero =>
    intro i x v n1 xs la lcap ys W hN hxi hr hk hn1 hn1W hL hx hbad hok
    obtain ⟨k, fo, s, va, rfl, hnm, hcs⟩ := hx
    obtain ⟨va1, va2, va3, rfl⟩ := hcs.slice
    have hil := rd_le hr
    have h200 := rd_200 hr
    have hm63 : (xs.length + 1 : Nat) ≤ maxLen := by unfold maxLen; omega
    refine nextF_step bl br bo bn be bk base la lcap xs.length ys x.name k fo s va1 va2 va3 W B l i fin g1 g lb1 lb e1 eg R Wb _ hL.box hL.own hk.room hbl hm63 (by omega) hBl hr hk xr xo xn xe xk ?_ ?_ ?_
    · intro hc
      have := sgn_lt hc
      omega
    · intro hc hf g' cap' w w' hG hm hr'
      have hk' := (hk.grew hG hL.own hBl hbl).moved hm
      have hL' := fdL_moved (fdL_push hL hbl hn1 hnm hcs hG) hm hBl hbl
      have hS := fdL_sl (n0 := w0.heap.size) hL' (by omega) (by simp; omega)
      have hlen : (xs ++ [x]).length = xs.length + 1 := by simp
      rw [hlen] at hS
      exact hok (xs ++ [x]) (i + 1) (by unfold nextRes; rw [if_neg (by rw [hc]; simp), if_pos hf]) w' _ (hk'.toMoved hw0 h0l hbl) hr' hS
    · intro hc hf g' cap' w w' hG hm
      exact hbad 4 (by unfold nextRes; rw [if_neg (by rw [hc]; simp), if_neg (by rw [hf]; simp)]) w' (((hk.grew hG hL.own hBl hbl).moved hm).toMoved hw0 h0l hbl)
  | succ N ih =>
    intro i x v n1 xs la lcap ys W hN hxi hr hk hn1 hn1W hL hx hbad hok
    obtain ⟨k, fo, s, va, rfl, hnm, hcs⟩ := hx
    obtain ⟨va1, va2, va3, rfl⟩ := hcs.slice
    have hil := rd_le hr
    have h200 := rd_200 hr
    have hm63 : (xs.length + 1 : Nat) ≤ maxLen := by unfold maxLen; omega
    refine nextF_step bl br bo bn be bk base la lcap xs.length ys x.name k fo s va1 va2 va3 W B l i fin g1 g lb1 lb e1 eg R Wb _ hL.box hL.own hk.room hbl hm63 (by omega) hBl hr hk xr xo xn xe xk ?_ ?_ ?_
    · intro hc g' cap' w w' hG hm hr'
      have hk' := (hk.grew hG hL.own hBl hbl).moved hm
      have hL' := fdL_moved (fdL_push hL hbl hn1 hnm hcs hG) hm hBl hbl
      have hP : nextRes (pNamed l [58]) l fin.data.toList (N + 1) xs x i = pList (pNamed l [58]) l fin.data.toList (N + 1) (xs ++ [x]) (i + 1) := if_pos hc
      refine hOne (i + 1) w' hr' hk' 133 _ (enters_of Tryz.func133 (by kernel_rfl) rfl) ?_ ?_
      · intro e he w'' hm''
        exact hbad e (by rw [hP, pList_bad he]) w'' ((hk'.moved hm'').toMoved hw0 h0l hbl)
      · intro y j hy w'' v hm'' hr'' hv
        have hadv := pNamed_adv hy
        exact ih j y v w'.heap.size (xs ++ [x]) _ _ _ w'' (by omega) (by simp; omega) hr'' (hk'.moved hm'') hk'.room hm''.below.size (fdL_moved (hL'.wider hm.below.size) hm'' hBl hbl) hv
          (fun e he w3 hm3 => hbad e (by rw [hP, pList_ok hy]; exact he) w3 hm3)
          (fun zs j' hz w3 v3 hm3 hr3 hv3 => hok zs j' (by rw [hP, pList_ok hy]; exact hz) w3 v3 hm3 hr3 hv3)
    · intro hc hf g' cap' w w' hG hm hr'
      have hk' := (hk.grew hG hL.own hBl hbl).moved hm
      have hL' := fdL_moved (fdL_push hL hbl hn1 hnm hcs hG) hm hBl hbl
      have hS := fdL_sl (n0 := w0.heap.size) hL' (by omega) (by simp; omega)
      have hlen : (xs ++ [x]).length = xs.length + 1 := by simp
      rw [hlen] at hS
      exact hok (xs ++ [x]) (i + 1) (by unfold nextRes; rw [if_neg (by rw [hc]; simp), if_pos hf]) w' _ (hk'.toMoved hw0 h0l hbl) hr' hS
    · intro hc hf g' cap' w w' hG hm
      exact hbad 4 (by unfold nextRes; rw [if_neg (by rw [hc]; simp), if_neg (by rw [hf]; simp)]) w' (((hk.grew hG hL.own hBl hbl).moved hm).toMoved hw0 h0l hbl)

theorem oneF_next (B : Nat) (l : Toks) (i : Nat) (W : World) (br : Nat) (g : Nat) (lb : Array Value) (eg : ∀ args w, (callFunc g args).run Tryz.prog w = .ok (.enter g args) w) (R : Int → World → Prop) (hr : RdAt B l i W)
    (cr : W.cell? ⟨br, 0, none⟩ = some (.pointer (some ⟨B, 0, none⟩)))
    (hbad : ∀ e, pNamed l [58] i = .bad e → ∀ w', Moved B W w' → R e w')
    (hok : ∀ x j, pNamed l [58] i = .ok x j → ∀ w' v, Moved B W w' → RdAt B l j w' → FdIs (Fresh W.heap.size w') w' x v → Calls Tryz.prog g (#[v] ++ lb) w' (Ends R)) :
    Calls Tryz.prog 108 #[.func (.func g) #[] lb, .pointer (some ⟨br, 0, none⟩)] W (Ends R) := by
  have HE := veil (named_next B l i ⟨#[58]⟩ W g lb eg R hr hbad hok)
  clear hbad hok hr eg
  go_enter Tryz.func108, Tryz.ntmps108
  go_wp2_with fail
  refine HE.out.mono ?_
  rintro e w' ⟨y, rfl, hy⟩
  have HY := veil hy
  clear hy
  go_wp2_with fail
  go_ret
  exact ⟨_, rfl, HY.out⟩

set_option maxHeartbeats 4000000 in
theorem listedF_next (B : Nat) (l : Toks) (i : Nat) (fin : ByteArray) (w : World) (br : Nat) (g : Nat) (lb : Array Value) (eg : ∀ args w, (callFunc g args).run Tryz.prog w = .ok (.enter g args) w) (R : Int → World → Prop) (hr : RdAt B l i w)
    (cr : w.cell? ⟨br, 0, none⟩ = some (.pointer (some ⟨B, 0, none⟩))) (hbr : B < br)
    (hbad : ∀ e, pList (pNamed l [58]) l fin.data.toList (l.length + 1) [] i = .bad e → ∀ w', Moved B w w' → R e w')
    (hok : ∀ xs j, pList (pNamed l [58]) l fin.data.toList (l.length + 1) [] i = .ok xs j → ∀ w' v, Moved B w w' → RdAt B l j w' → SlAt (Fresh w.heap.size w') (FdAt (Fresh w.heap.size w') w') 5 xs v → Calls Tryz.prog g (#[v] ++ lb) w' (Ends R)) :
    Calls Tryz.prog 109 #[.pointer (some ⟨B, 0, none⟩), .string fin, .func (.func 108) #[] #[.pointer (some ⟨br, 0, none⟩)], .func (.func g) #[] lb] w (Ends R) := by
  have hlt := rd_lt hr
  have hbrw : br < w.heap.size := World.block_lt_of_cell? w _ cr
  obtain ⟨Wb, hWb, hsz, p0, p1, p2, p3, p4, p5, hbel⟩ := six_new w (.cells #[.pointer (some ⟨B, 0, none⟩)] 76) (.cells #[.string fin] 9) (.cells #[.func (.func 108) #[] #[.pointer (some ⟨br, 0, none⟩)]] 141) (.cells #[.func (.func g) #[] lb] 129) (.cells #[.slice none 0 0] 23)
    (.cells #[.func (.func 133) #[] #[.pointer (some ⟨w.heap.size + 4, 0, none⟩), .pointer (some ⟨w.heap.size, 0, none⟩), .pointer (some ⟨w.heap.size + 2, 0, none⟩), .pointer (some ⟨w.heap.size + 5, 0, none⟩), .pointer (some ⟨w.heap.size + 1, 0, none⟩), .pointer (some ⟨w.heap.size + 3, 0, none⟩)]] 82)
  have hm : Moved B w Wb := Moved.of_below hbel (by omega)
  have hr0 := rd_below hr hbel
  have cr0 : Wb.cell? ⟨br, 0, none⟩ = some (.pointer (some ⟨B, 0, none⟩)) := (hbel.cell (p := ⟨br, 0, none⟩) hbrw).trans cr
  have xbr : LBox B (w.heap.size + 4) (w.heap.size + 6) br (.pointer (some ⟨B, 0, none⟩)) Wb := ⟨cr0, hbr, by omega, by omega⟩
  have hK0 : Kept B (w.heap.size + 4) (w.heap.size + 6) Wb Wb := ⟨Below.refl _ _, fun _ _ _ _ => rfl, by omega⟩
  have hL0 : ListOf FdC 63 23 (w.heap.size + 6) (w.heap.size + 4) (w.heap.size + 6) [] none 0 [] Wb := ⟨p4, ⟨rfl, Or.inl ⟨rfl, rfl⟩⟩, fun g' h => (by cases h), fun j hj => absurd hj (by simp)⟩
  have cI := oneF_next B l i Wb br 133 #[.pointer (some ⟨w.heap.size + 4, 0, none⟩), .pointer (some ⟨w.heap.size, 0, none⟩), .pointer (some ⟨w.heap.size + 2, 0, none⟩), .pointer (some ⟨w.heap.size + 5, 0, none⟩), .pointer (some ⟨w.heap.size + 1, 0, none⟩), .pointer (some ⟨w.heap.size + 3, 0, none⟩)] (enters_of Tryz.func133 (by kernel_rfl) rfl) R hr0 cr0
    (fun e he w' hm' => hbad e (pList_bad he) w' (hm.trans hm'))
    (fun x j hx w' v hm' hr' hv => by
      refine nextF_go B l fin w Wb (w.heap.size + 6) (w.heap.size + 4) w.heap.size (w.heap.size + 2) (w.heap.size + 5) (w.heap.size + 1) (w.heap.size + 3) 108 g #[.pointer (some ⟨br, 0, none⟩)] lb (enters_of Tryz.func108 (by kernel_rfl) rfl) eg R hm (by omega) (by omega) (by omega)
        ⟨box_cell p0, by omega, by omega, by omega⟩ ⟨box_cell p2, by omega, by omega, by omega⟩ ⟨box_cell p5, by omega, by omega, by omega⟩ ⟨box_cell p1, by omega, by omega, by omega⟩ ⟨box_cell p3, by omega, by omega, by omega⟩
        (fun i' W hr1 hk1 g' lb' eg' hbad' hok' => oneF_next B l i' W br g' lb' eg' R hr1 (xbr.later hk1) hbad' hok')
        l.length j x v (w.heap.size + 6) [] none 0 [] w' (by omega) (by simp) hr' (hK0.moved hm') (Nat.le_refl _) (by have := hm'.below.size; omega) (fdL_moved hL0 hm' (by omega) (by omega)) (by rw [hsz] at hv; exact hv) ?_ ?_
      · intro e he w'' hm''
        exact hbad e (by rw [pList_ok hx]; exact he) w'' hm''
      · intro zs j' hz w'' v' hm'' hr'' hv'
        exact hok zs j' (by rw [pList_ok hx]; exact hz) w'' v' hm'' hr'' hv')
  rw [← hWb] at cI
  have HCI := veil cI
  have hef := makeFunc_run
  have e1 := enters_of (P := Tryz.prog) Tryz.func108 (by kernel_rfl) rfl
  clear cI hbad hok hr hWb hsz p0 p1 p2 p3 p4 p5 hbel hm hr0 cr0 xbr hK0 hL0 cr eg hbrw
  go_enter Tryz.func109, Tryz.ntmps109
  go_wp2_with fail
  refine HCI.out.mono ?_
  rintro e w' ⟨y, rfl, hy⟩
  have HY := veil hy
  clear hy
  go_wp2_with fail
  go_ret
  exact ⟨_, rfl, HY.out⟩

/-- the reader's params reads as 'pParams' says. -/
def ParamsReads : Prop := ∀ (B : Nat) (l : Toks) (i : Nat) (w : World) (g : Nat) (lb : Array Value), (∀ args w, (callFunc g args).run Tryz.prog w = .ok (.enter g args) w) → ∀ (R : Int → World → Prop), RdAt B l i w →
    (∀ e, pParams l i = .bad e → ∀ w', Moved B w w' → R e w') →
    (∀ xs j, pParams l i = .ok xs j → ∀ w' v, Moved B w w' → RdAt B l j w' → SlAt (Fresh w.heap.size w') (FdAt (Fresh w.heap.size w') w') 5 xs v → Calls Tryz.prog g (#[v] ++ lb) w' (Ends R)) →
    Calls Tryz.prog 71 #[.pointer (some ⟨B, 0, none⟩), .func (.func g) #[] lb] w (Ends R)

set_option maxHeartbeats 2000000 in
theorem params_next : ParamsReads := by
  intro B l i w g lb eg R hr hbad hok
  have hlt := rd_lt hr
  have hal : Below w.heap.size w (w.alloc (.cells #[.pointer (some ⟨B, 0, none⟩)] 76)) := (Below.refl _ _).alloc (Nat.le_refl _) _
  have HM0 : Hid (Moved B w (w.alloc (.cells #[.pointer (some ⟨B, 0, none⟩)] 76))) := Moved.of_below hal (by omega)
  have HR0 := veil (rd_below hr hal)
  have HBad := veil hbad
  have HOk := veil hok
  have HEg := veil eg
  have hef := makeFunc_run
  clear hbad hok hr hal eg
  go_enter Tryz.func71, Tryz.ntmps71
  go_wp2_with fail
  refine (sign_next B l i ⟨#[41]⟩ _ HR0.out).mono ?_
  rintro e w1 ⟨rfl, q1, q2⟩
  have HM1 := veil (HM0.out.trans q2)
  have hsz1 : w.heap.size + 1 ≤ w1.heap.size := by have := q2.below.size; simpa using this
  have c1 : w1.cell? ⟨w.heap.size, 0, none⟩ = some (.pointer (some ⟨B, 0, none⟩)) := (q2.cell (by omega) (by simp) 0).trans (World.cell?_alloc_at _ _ _ _ rfl)
  cases hs : sgn l i [41]
  · have hs' : sgn l i (ByteArray.mk #[41]).data.toList = false := hs
    rw [hs'] at q1
    have q1' : RdAt B l i w1 := q1
    have hP : pParams l i = pList (pNamed l [58]) l [41] (l.length + 1) [] i := by unfold pParams; rw [if_neg (by rw [hs]; simp)]
    have cI := listedF_next B l i ⟨#[41]⟩ w1 w.heap.size g lb HEg.out R q1' c1 (by omega)
      (fun e he w' hm' => HBad.out e (by rw [hP]; exact he) w' (HM1.out.trans hm'))
      (fun xs j hx w' v hm' hr' hv => HOk.out xs j (by rw [hP]; exact hx) w' v (HM1.out.trans hm') hr' (fdSl_keep ⟨fun _ _ => rfl, fun b hb => ⟨by have := hb.1; omega, hb.2⟩⟩ hv))
    have HCI := veil cI
    try rw [hs']
    clear q1 q1' q2 hs hs' HBad HOk cI hP
    go_wp2_with fail
    refine HCI.out.mono ?_
    rintro e w' ⟨y, rfl, hy⟩
    have HY := veil hy
    clear hy
    go_wp2_with fail
    go_ret
    exact ⟨_, rfl, HY.out⟩
  · have hs' : sgn l i (ByteArray.mk #[41]).data.toList = true := hs
    rw [hs'] at q1
    have q1' : RdAt B l (i + 1) w1 := q1
    have HCI := veil (HOk.out [] (i + 1) (by unfold pParams; rw [if_pos hs]) w1 _ HM1.out q1' none_sl)
    have eg := HEg.out
    try rw [hs']
    clear q1 q1' q2 hs hs' HBad HOk
    go_wp2_with fail
    refine HCI.out.mono ?_
    rintro e w' ⟨y, rfl, hy⟩
    have HY := veil hy
    clear hy
    go_wp2_with fail
    go_ret
    exact ⟨_, rfl, HY.out⟩

end Go.Proofs.YtpamadnckijfkabGreatDoor
