import Derived.Test.YtagbaimfigljiaaGreatDoorJCk4
import Derived.Test.YtagbaimfigljiaaGreatDoorJCk7
namespace Go.Proofs.YtagbaimfigljiaaGreatDoor
open Go.RowKit
set_option maxRecDepth 100000

theorem rd_le {B : Nat} {l : Toks} {i : Nat} {w : World} (h : RdAt B l i w) : i ≤ l.length := by obtain ⟨_, _, _, h⟩ := h; exact h
theorem rd_200 {B : Nat} {l : Toks} {i : Nat} {w : World} (h : RdAt B l i w) : l.length ≤ 200 := by obtain ⟨_, _, ⟨⟨h, _⟩, _⟩, _⟩ := h; exact h

theorem ListOf.wider {α : Type} {C : (Nat → Prop) → World → α → List Value → Prop} {T Tl : TypeId} {base bl n1 n2 : Nat} {xs : List α} {la : Option Addr} {cap : Nat} {ys : List Value} {W : World} (h : ListOf C T Tl base bl n1 xs la cap ys W) (hn : n1 ≤ n2) : ListOf C T Tl base bl n2 xs la cap ys W :=
  ⟨h.box, h.own, fun g hg => Nat.lt_of_lt_of_le (h.old g hg) hn, h.items⟩

theorem exL_moved {B base bl n1 : Nat} {xs : List Ex} {la : Option Addr} {cap : Nat} {ys : List Value} {W W' : World} (h : ListOf ExC 87 85 base bl n1 xs la cap ys W) (hm : Moved B W W') (hB : B < bl) (hbl : bl < base) : ListOf ExC 87 85 base bl n1 xs la cap ys W' :=
  ListOf.moved (C := ExC) (fun hk h => exC_keep hk h) h hm hB hbl

theorem exL_push {base bl n1 : Nat} {xs : List Ex} {x : Ex} {la : Option Addr} {cap g cap' : Nat} {ys : List Value} {W W' : World} {k n : Int} {f s : ByteArray} {va1 : Option Addr} {va2 va3 : Nat} (h : ListOf ExC 87 85 base bl n1 xs la cap ys W) (hbl : bl < base) (hn1 : base ≤ n1) (hcs : ExCs (Fresh n1 W) W x k n f s (.slice va1 va2 va3))
    (hg : Grew base bl 87 85 (.slice la xs.length cap) (.slice (some ⟨g, 0, none⟩) (xs.length + 1) cap') (xs.length + 1) (ys ++ [.int .i64 k, .int .i64 n, .string f, .string s, .slice va1 va2 va3]) W W') :
    ListOf ExC 87 85 base bl W'.heap.size (xs ++ [x]) (some ⟨g, 0, none⟩) cap' (ys ++ [.int .i64 k, .int .i64 n, .string f, .string s, .slice va1 va2 va3]) W' :=
  ListOf.push (C := ExC) (fun hk h => exC_keep hk h) h hbl hn1 rfl ⟨_, _, _, _, _, _, _, rfl, hcs⟩ hg

theorem exL_sl {base bl n1 n0 : Nat} {xs : List Ex} {la : Option Addr} {cap : Nat} {ys : List Value} {W : World} (h : ListOf ExC 87 85 base bl n1 xs la cap ys W) (hn0 : n0 ≤ base) (hmax : xs.length ≤ maxLen) : SlAt (Fresh n0 W) (ExAt (Fresh n0 W) W) 5 xs (.slice la xs.length cap) :=
  ListOf.toSl (C := ExC) (P := ExAt) (fun hk h => exC_keep hk h) (fun h1 h2 h3 => exC_at h1 h2 h3) h hn0 hmax

set_option maxHeartbeats 8000000 in
theorem next_go (f : Nat) (B : Nat) (l : Toks) (fin : ByteArray) (w0 Wb : World) (base bl br bo bn be bk g1 g : Nat) (lb1 lb : Array Value) (e1 : ∀ args w, (callFunc g1 args).run Tryz.prog w = .ok (.enter g1 args) w) (eg : ∀ args w, (callFunc g args).run Tryz.prog w = .ok (.enter g args) w) (R : Int → World → Prop)
    (hw0 : Moved B w0 Wb) (hBl : B < bl) (h0l : w0.heap.size ≤ bl) (hbl : bl < base)
    (xr : LBox B bl base br (.pointer (some ⟨B, 0, none⟩)) Wb) (xo : LBox B bl base bo (.func (.func g1) #[] lb1) Wb)
    (xn : LBox B bl base bn (.func (.func 358) #[] #[.pointer (some ⟨bl, 0, none⟩), .pointer (some ⟨br, 0, none⟩), .pointer (some ⟨bo, 0, none⟩), .pointer (some ⟨bn, 0, none⟩), .pointer (some ⟨be, 0, none⟩), .pointer (some ⟨bk, 0, none⟩)]) Wb)
    (xe : LBox B bl base be (.string fin) Wb) (xk : LBox B bl base bk (.func (.func g) #[] lb) Wb)
    (hOne : ∀ (i : Nat) (W : World), RdAt B l i W → Kept B bl base Wb W → ∀ (g' : Nat) (lb' : Array Value), (∀ args w, (callFunc g' args).run Tryz.prog w = .ok (.enter g' args) w) →
      (∀ e, pEx l f i = .bad e → ∀ w', Moved B W w' → R e w') →
      (∀ x j, pEx l f i = .ok x j → ∀ w' v, Moved B W w' → RdAt B l j w' → ExIs (Fresh W.heap.size w') w' x v → Calls Tryz.prog g' (#[v] ++ lb') w' (Ends R)) →
      Calls Tryz.prog g1 (#[.func (.func g') #[] lb'] ++ lb1) W (Ends R)) :
    ∀ (N i : Nat) (x : Ex) (v : Value) (n1 : Nat) (xs : List Ex) (la : Option Addr) (lcap : Nat) (ys : List Value) (W : World), l.length ≤ i + N → xs.length ≤ i → RdAt B l i W → Kept B bl base Wb W → base ≤ n1 → n1 ≤ W.heap.size →
      ListOf ExC 87 85 base bl n1 xs la lcap ys W → ExIs (Fresh n1 W) W x v →
      (∀ e, nextRes (pEx l f) l fin.data.toList N xs x i = .bad e → ∀ w', Moved B w0 w' → R e w') →
      (∀ zs j, nextRes (pEx l f) l fin.data.toList N xs x i = .ok zs j → ∀ w' v', Moved B w0 w' → RdAt B l j w' → SlAt (Fresh w0.heap.size w') (ExAt (Fresh w0.heap.size w') w') 5 zs v' → Calls Tryz.prog g (#[v'] ++ lb) w' (Ends R)) →
      Calls Tryz.prog 358 #[v, .pointer (some ⟨bl, 0, none⟩), .pointer (some ⟨br, 0, none⟩), .pointer (some ⟨bo, 0, none⟩), .pointer (some ⟨bn, 0, none⟩), .pointer (some ⟨be, 0, none⟩), .pointer (some ⟨bk, 0, none⟩)] W (Ends R) := by
  intro N
  induction N with
  | zero =>
    intro i x v n1 xs la lcap ys W hN hxi hr hk hn1 hn1W hL hx hbad hok
    obtain ⟨k, nu, fo, s, va, rfl, hcs⟩ := hx
    obtain ⟨va1, va2, va3, rfl⟩ := hcs.slice
    have hil := rd_le hr
    have h200 := rd_200 hr
    have hm63 : (xs.length + 1 : Nat) ≤ maxLen := by unfold maxLen; omega
    refine next_step bl br bo bn be bk base la lcap xs.length ys k nu fo s va1 va2 va3 W B l i fin g1 g lb1 lb e1 eg R Wb _ hL.box hL.own hk.room hbl hm63 (by omega) hBl hr hk xr xo xn xe xk ?_ ?_ ?_
    · intro hc
      have := sgn_lt hc
      omega
    · intro hc hf g' cap' w w' hG hm hr'
      have hk' := (hk.grew hG hL.own hBl hbl).moved hm
      have hL' := exL_moved (exL_push hL hbl hn1 hcs hG) hm hBl hbl
      have hS := exL_sl (n0 := w0.heap.size) hL' (by omega) (by simp; omega)
      have hlen : (xs ++ [x]).length = xs.length + 1 := by simp
      rw [hlen] at hS
      exact hok (xs ++ [x]) (i + 1) (by unfold nextRes; rw [if_neg (by rw [hc]; simp), if_pos hf]) w' _ (hk'.toMoved hw0 h0l hbl) hr' hS
    · intro hc hf g' cap' w w' hG hm
      exact hbad 4 (by unfold nextRes; rw [if_neg (by rw [hc]; simp), if_neg (by rw [hf]; simp)]) w' (((hk.grew hG hL.own hBl hbl).moved hm).toMoved hw0 h0l hbl)
  | succ N ih =>
    intro i x v n1 xs la lcap ys W hN hxi hr hk hn1 hn1W hL hx hbad hok
    obtain ⟨k, nu, fo, s, va, rfl, hcs⟩ := hx
    obtain ⟨va1, va2, va3, rfl⟩ := hcs.slice
    have hil := rd_le hr
    have h200 := rd_200 hr
    have hm63 : (xs.length + 1 : Nat) ≤ maxLen := by unfold maxLen; omega
    refine next_step bl br bo bn be bk base la lcap xs.length ys k nu fo s va1 va2 va3 W B l i fin g1 g lb1 lb e1 eg R Wb _ hL.box hL.own hk.room hbl hm63 (by omega) hBl hr hk xr xo xn xe xk ?_ ?_ ?_
    · intro hc g' cap' w w' hG hm hr'
      have hk' := (hk.grew hG hL.own hBl hbl).moved hm
      have hL' := exL_moved (exL_push hL hbl hn1 hcs hG) hm hBl hbl
      have hP : nextRes (pEx l f) l fin.data.toList (N + 1) xs x i = pList (pEx l f) l fin.data.toList (N + 1) (xs ++ [x]) (i + 1) := if_pos hc
      refine hOne (i + 1) w' hr' hk' 358 _ (enters_of Tryz.func358 (by kernel_rfl) rfl) ?_ ?_
      · intro e he w'' hm''
        exact hbad e (by rw [hP, pList_bad he]) w'' ((hk'.moved hm'').toMoved hw0 h0l hbl)
      · intro y j hy w'' v hm'' hr'' hv
        have hadv := pEx_adv f _ _ _ hy
        exact ih j y v w'.heap.size (xs ++ [x]) _ _ _ w'' (by omega) (by simp; omega) hr'' (hk'.moved hm'') hk'.room hm''.below.size (exL_moved (hL'.wider hm.below.size) hm'' hBl hbl) hv
          (fun e he w3 hm3 => hbad e (by rw [hP, pList_ok hy]; exact he) w3 hm3)
          (fun zs j' hz w3 v3 hm3 hr3 hv3 => hok zs j' (by rw [hP, pList_ok hy]; exact hz) w3 v3 hm3 hr3 hv3)
    · intro hc hf g' cap' w w' hG hm hr'
      have hk' := (hk.grew hG hL.own hBl hbl).moved hm
      have hL' := exL_moved (exL_push hL hbl hn1 hcs hG) hm hBl hbl
      have hS := exL_sl (n0 := w0.heap.size) hL' (by omega) (by simp; omega)
      have hlen : (xs ++ [x]).length = xs.length + 1 := by simp
      rw [hlen] at hS
      exact hok (xs ++ [x]) (i + 1) (by unfold nextRes; rw [if_neg (by rw [hc]; simp), if_pos hf]) w' _ (hk'.toMoved hw0 h0l hbl) hr' hS
    · intro hc hf g' cap' w w' hG hm
      exact hbad 4 (by unfold nextRes; rw [if_neg (by rw [hc]; simp), if_neg (by rw [hf]; simp)]) w' (((hk.grew hG hL.own hBl hbl).moved hm).toMoved hw0 h0l hbl)

theorem one_next (f d : Nat) (hd : d < 100) (hE : ExprReads f (d + 1)) (B : Nat) (l : Toks) (i : Nat) (W : World) (br bd : Nat) (g : Nat) (lb : Array Value) (eg : ∀ args w, (callFunc g args).run Tryz.prog w = .ok (.enter g args) w) (R : Int → World → Prop) (hr : RdAt B l i W)
    (cr : W.cell? ⟨br, 0, none⟩ = some (.pointer (some ⟨B, 0, none⟩))) (cd : W.cell? ⟨bd, 0, none⟩ = some (.int .i64 d))
    (hbad : ∀ e, pEx l f i = .bad e → ∀ w', Moved B W w' → R e w')
    (hok : ∀ x j, pEx l f i = .ok x j → ∀ w' v, Moved B W w' → RdAt B l j w' → ExIs (Fresh W.heap.size w') w' x v → Calls Tryz.prog g (#[v] ++ lb) w' (Ends R)) :
    Calls Tryz.prog 349 #[.func (.func g) #[] lb, .pointer (some ⟨br, 0, none⟩), .pointer (some ⟨bd, 0, none⟩)] W (Ends R) := by
  have HE := veil (hE B l i W g lb eg R hr hbad hok)
  have en : ((d + 1 : Nat) : Int) = (d : Int) + 1 := by omega
  rw [en] at HE
  have hd' : (d : Int) < 100 := by omega
  clear hbad hok hr eg hE en hd
  go_enter Tryz.func349, Tryz.ntmps349
  go_wp2_with fail
  refine HE.out.mono ?_
  rintro e w' ⟨y, rfl, hy⟩
  have HY := veil hy
  clear hy
  go_wp2_with fail
  go_ret
  exact ⟨_, rfl, HY.out⟩

theorem six_new (w : World) (o0 o1 o2 o3 o4 o5 : Obj) : ∃ W, ((((((w.alloc o0).alloc o1).alloc o2).alloc o3).alloc o4).alloc o5) = W ∧ W.heap.size = w.heap.size + 6 ∧ W.heap[w.heap.size]? = some o0 ∧ W.heap[w.heap.size + 1]? = some o1 ∧ W.heap[w.heap.size + 2]? = some o2 ∧
    W.heap[w.heap.size + 3]? = some o3 ∧ W.heap[w.heap.size + 4]? = some o4 ∧ W.heap[w.heap.size + 5]? = some o5 ∧ Below w.heap.size w W := by
  have n0 : (w.alloc o0).heap.size = w.heap.size + 1 := by simp
  have n1 : ((w.alloc o0).alloc o1).heap.size = w.heap.size + 2 := by simp
  have n2 : (((w.alloc o0).alloc o1).alloc o2).heap.size = w.heap.size + 3 := by simp
  have n3 : ((((w.alloc o0).alloc o1).alloc o2).alloc o3).heap.size = w.heap.size + 4 := by simp
  have n4 : (((((w.alloc o0).alloc o1).alloc o2).alloc o3).alloc o4).heap.size = w.heap.size + 5 := by simp
  have a0 := heap_alloc_new w o0
  have a1 := heap_alloc_new (w.alloc o0) o1
  have a2 := heap_alloc_new ((w.alloc o0).alloc o1) o2
  have a3 := heap_alloc_new (((w.alloc o0).alloc o1).alloc o2) o3
  have a4 := heap_alloc_new ((((w.alloc o0).alloc o1).alloc o2).alloc o3) o4
  have a5 := heap_alloc_new (((((w.alloc o0).alloc o1).alloc o2).alloc o3).alloc o4) o5
  rw [n0] at a1
  rw [n1] at a2
  rw [n2] at a3
  rw [n3] at a4
  rw [n4] at a5
  refine ⟨_, rfl, by simp, ?_, ?_, ?_, ?_, ?_, a5, ?_⟩
  · rw [heap_alloc_old _ _ (by omega), heap_alloc_old _ _ (by omega), heap_alloc_old _ _ (by omega), heap_alloc_old _ _ (by omega), heap_alloc_old _ _ (by omega)]; exact a0
  · rw [heap_alloc_old _ _ (by omega), heap_alloc_old _ _ (by omega), heap_alloc_old _ _ (by omega), heap_alloc_old _ _ (by omega)]; exact a1
  · rw [heap_alloc_old _ _ (by omega), heap_alloc_old _ _ (by omega), heap_alloc_old _ _ (by omega)]; exact a2
  · rw [heap_alloc_old _ _ (by omega), heap_alloc_old _ _ (by omega)]; exact a3
  · rw [heap_alloc_old _ _ (by omega)]; exact a4
  · exact ((((((Below.refl _ _).alloc (Nat.le_refl _) _).alloc (by omega) _).alloc (by omega) _).alloc (by omega) _).alloc (by omega) _).alloc (by omega) _

theorem box_cell {W : World} {c : Nat} {v : Value} {T : TypeId} (h : W.heap[c]? = some (.cells #[v] T (0, 0))) : W.cell? ⟨c, 0, none⟩ = some v := by rw [cell_of_row W c 0 _ _ _ h]; rfl

set_option maxHeartbeats 4000000 in
theorem listed_next (f d : Nat) (hd : d < 100) (hE : ExprReads f (d + 1)) (B : Nat) (l : Toks) (i : Nat) (fin : ByteArray) (w : World) (br bd : Nat) (g : Nat) (lb : Array Value) (eg : ∀ args w, (callFunc g args).run Tryz.prog w = .ok (.enter g args) w) (R : Int → World → Prop) (hr : RdAt B l i w)
    (cr : w.cell? ⟨br, 0, none⟩ = some (.pointer (some ⟨B, 0, none⟩))) (cd : w.cell? ⟨bd, 0, none⟩ = some (.int .i64 d)) (hbr : B < br) (hbd : B < bd)
    (hbad : ∀ e, pList (pEx l f) l fin.data.toList (l.length + 1) [] i = .bad e → ∀ w', Moved B w w' → R e w')
    (hok : ∀ xs j, pList (pEx l f) l fin.data.toList (l.length + 1) [] i = .ok xs j → ∀ w' v, Moved B w w' → RdAt B l j w' → SlAt (Fresh w.heap.size w') (ExAt (Fresh w.heap.size w') w') 5 xs v → Calls Tryz.prog g (#[v] ++ lb) w' (Ends R)) :
    Calls Tryz.prog 350 #[.pointer (some ⟨B, 0, none⟩), .string fin, .func (.func 349) #[] #[.pointer (some ⟨br, 0, none⟩), .pointer (some ⟨bd, 0, none⟩)], .func (.func g) #[] lb] w (Ends R) := by
  have hlt := rd_lt hr
  have hbrw : br < w.heap.size := World.block_lt_of_cell? w _ cr
  have hbdw : bd < w.heap.size := World.block_lt_of_cell? w _ cd
  obtain ⟨Wb, hWb, hsz, p0, p1, p2, p3, p4, p5, hbel⟩ := six_new w (.cells #[.pointer (some ⟨B, 0, none⟩)] 179) (.cells #[.string fin] 9) (.cells #[.func (.func 349) #[] #[.pointer (some ⟨br, 0, none⟩), .pointer (some ⟨bd, 0, none⟩)]] 345) (.cells #[.func (.func g) #[] lb] 336) (.cells #[.slice none 0 0] 85)
    (.cells #[.func (.func 358) #[] #[.pointer (some ⟨w.heap.size + 4, 0, none⟩), .pointer (some ⟨w.heap.size, 0, none⟩), .pointer (some ⟨w.heap.size + 2, 0, none⟩), .pointer (some ⟨w.heap.size + 5, 0, none⟩), .pointer (some ⟨w.heap.size + 1, 0, none⟩), .pointer (some ⟨w.heap.size + 3, 0, none⟩)]] 249)
  have hm : Moved B w Wb := Moved.of_below hbel (by omega)
  have hr0 := rd_below hr hbel
  have cr0 : Wb.cell? ⟨br, 0, none⟩ = some (.pointer (some ⟨B, 0, none⟩)) := (hbel.cell (p := ⟨br, 0, none⟩) hbrw).trans cr
  have cd0 : Wb.cell? ⟨bd, 0, none⟩ = some (.int .i64 d) := (hbel.cell (p := ⟨bd, 0, none⟩) hbdw).trans cd
  have xbr : LBox B (w.heap.size + 4) (w.heap.size + 6) br (.pointer (some ⟨B, 0, none⟩)) Wb := ⟨cr0, hbr, by omega, by omega⟩
  have xbd : LBox B (w.heap.size + 4) (w.heap.size + 6) bd (.int .i64 d) Wb := ⟨cd0, hbd, by omega, by omega⟩
  have hK0 : Kept B (w.heap.size + 4) (w.heap.size + 6) Wb Wb := ⟨Below.refl _ _, fun _ _ _ _ => rfl, by omega⟩
  have hL0 : ListOf ExC 87 85 (w.heap.size + 6) (w.heap.size + 4) (w.heap.size + 6) [] none 0 [] Wb := ⟨p4, ⟨rfl, Or.inl ⟨rfl, rfl⟩⟩, fun g' h => (by cases h), fun j hj => absurd hj (by simp)⟩
  have cI := one_next f d hd hE B l i Wb br bd 358 #[.pointer (some ⟨w.heap.size + 4, 0, none⟩), .pointer (some ⟨w.heap.size, 0, none⟩), .pointer (some ⟨w.heap.size + 2, 0, none⟩), .pointer (some ⟨w.heap.size + 5, 0, none⟩), .pointer (some ⟨w.heap.size + 1, 0, none⟩), .pointer (some ⟨w.heap.size + 3, 0, none⟩)] (enters_of Tryz.func358 (by kernel_rfl) rfl) R hr0 cr0 cd0
    (fun e he w' hm' => hbad e (pList_bad he) w' (hm.trans hm'))
    (fun x j hx w' v hm' hr' hv => by
      refine next_go f B l fin w Wb (w.heap.size + 6) (w.heap.size + 4) w.heap.size (w.heap.size + 2) (w.heap.size + 5) (w.heap.size + 1) (w.heap.size + 3) 349 g #[.pointer (some ⟨br, 0, none⟩), .pointer (some ⟨bd, 0, none⟩)] lb (enters_of Tryz.func349 (by kernel_rfl) rfl) eg R hm (by omega) (by omega) (by omega)
        ⟨box_cell p0, by omega, by omega, by omega⟩ ⟨box_cell p2, by omega, by omega, by omega⟩ ⟨box_cell p5, by omega, by omega, by omega⟩ ⟨box_cell p1, by omega, by omega, by omega⟩ ⟨box_cell p3, by omega, by omega, by omega⟩
        (fun i' W hr1 hk1 g' lb' eg' hbad' hok' => one_next f d hd hE B l i' W br bd g' lb' eg' R hr1 (xbr.later hk1) (xbd.later hk1) hbad' hok')
        l.length j x v (w.heap.size + 6) [] none 0 [] w' (by omega) (by simp) hr' (hK0.moved hm') (Nat.le_refl _) (by have := hm'.below.size; omega) (exL_moved hL0 hm' (by omega) (by omega)) (by rw [hsz] at hv; exact hv) ?_ ?_
      · intro e he w'' hm''
        exact hbad e (by rw [pList_ok hx]; exact he) w'' hm''
      · intro zs j' hz w'' v' hm'' hr'' hv'
        exact hok zs j' (by rw [pList_ok hx]; exact hz) w'' v' hm'' hr'' hv')
  rw [← hWb] at cI
  have HCI := veil cI
  have hef := makeFunc_run
  have e1 := enters_of (P := Tryz.prog) Tryz.func349 (by kernel_rfl) rfl
  clear cI hbad hok hr hWb hsz p0 p1 p2 p3 p4 p5 hbel hm hr0 cr0 cd0 xbr xbd hK0 hL0 cr cd hE eg hbrw hbdw
  go_enter Tryz.func350, Tryz.ntmps350
  go_wp2_with fail
  refine HCI.out.mono ?_
  rintro e w' ⟨y, rfl, hy⟩
  have HY := veil hy
  clear hy
  go_wp2_with fail
  go_ret
  exact ⟨_, rfl, HY.out⟩

set_option maxHeartbeats 2000000 in
theorem args_next (f d : Nat) (hd : d < 100) (hE : ExprReads f (d + 1)) : ArgsReads f d := by
  intro B l i fin w g lb eg R hr hbad hok
  have hlt := rd_lt hr
  have hal : Below w.heap.size w ((w.alloc (.cells #[.pointer (some ⟨B, 0, none⟩)] 179)).alloc (.cells #[.int .i64 d] 3)) := ((Below.refl _ _).alloc (Nat.le_refl _) _).alloc (by simp) _
  have hm : Moved B w ((w.alloc (.cells #[.pointer (some ⟨B, 0, none⟩)] 179)).alloc (.cells #[.int .i64 d] 3)) := Moved.of_below hal (by omega)
  have hsz : ((w.alloc (.cells #[.pointer (some ⟨B, 0, none⟩)] 179)).alloc (.cells #[.int .i64 d] 3)).heap.size = w.heap.size + 2 := by simp
  have cI := listed_next f d hd hE B l i fin ((w.alloc (.cells #[.pointer (some ⟨B, 0, none⟩)] 179)).alloc (.cells #[.int .i64 d] 3)) w.heap.size (w.heap.size + 1) g lb eg R (rd_below hr hal)
    ((World.cell?_alloc_old _ _ _ (by simp)).trans (World.cell?_alloc_at _ _ _ _ rfl)) (World.cell?_alloc_at _ _ _ _ (by simp)) (by omega) (by omega)
    (fun e he w' hm' => hbad e he w' (hm.trans hm'))
    (fun xs j hx w' v hm' hr' hv => hok xs j hx w' v (hm.trans hm') hr' (exSl_keep ⟨fun _ _ => rfl, fun b hb => ⟨by have := hb.1; omega, hb.2⟩⟩ hv))
  have HCI := veil cI
  have hef := makeFunc_run
  clear cI hbad hok hr hal hm hsz hE eg
  go_enter Tryz.func334, Tryz.ntmps334
  go_wp2_with fail
  refine HCI.out.mono ?_
  rintro e w' ⟨y, rfl, hy⟩
  have HY := veil hy
  clear hy
  go_wp2_with fail
  go_ret
  exact ⟨_, rfl, HY.out⟩

/-- expressions are read as 'pEx' says. -/
theorem expr_next : ∀ (f d : Nat), d + f = 41 → ExprReads f d
  | 0, d, h => expr_zero d (by omega) (by omega)
  | f + 1, d, h => by
    have hE := expr_next f (d + 1) (by omega)
    exact expr_succ f d (by omega) (operand_next f d (by omega) hE (head_next f d (by omega) hE (args_next f d (by omega) hE) (call_next f d (args_next f d (by omega) hE))))

end Go.Proofs.YtagbaimfigljiaaGreatDoor
namespace Go.Proofs.YtagbaimfigljiaaGreatDoor
open Go.RowKit
set_option maxRecDepth 100000

theorem pTy_adv {l : Toks} : ∀ (f i : Nat) (t : Ty) (j : Nat), pTy l f i = .ok t j → i ≤ j
  | 0, _, _, _, h => by rw [pTy] at h; cases h
  | f + 1, i, t, j, h => by
    rw [pTy] at h
    split at h
    · injection h with _ h; omega
    · split at h
      · injection h with _ h; omega
      · split at h
        · split at h
          · cases h
          · rename_i hk
            have := pTy_adv f _ _ _ hk
            split at h
            · injection h with _ h; omega
            · cases h
        · split at h
          · cases h
          · rename_i hk
            have := nameAt_adv hk
            injection h with _ h; omega

theorem pNamed_adv {l : Toks} {s : List UInt8} {i : Nat} {x : Fd} {j : Nat} (h : pNamed l s i = .ok x j) : i ≤ j := by
  unfold pNamed at h
  split at h
  · cases h
  · split at h
    · split at h
      · cases h
      · rename_i hk
        have := pTy_adv _ _ _ _ hk
        injection h with _ h; omega
    · cases h

theorem fdL_moved {B base bl n1 : Nat} {xs : List Fd} {la : Option Addr} {cap : Nat} {ys : List Value} {W W' : World} (h : ListOf FdC 101 41 base bl n1 xs la cap ys W) (hm : Moved B W W') (hB : B < bl) (hbl : bl < base) : ListOf FdC 101 41 base bl n1 xs la cap ys W' :=
  ListOf.moved (C := FdC) (fun hk h => fdC_keep hk h) h hm hB hbl

theorem fdL_push {base bl n1 : Nat} {xs : List Fd} {x : Fd} {la : Option Addr} {cap g cap' : Nat} {ys : List Value} {W W' : World} {k : Int} {f s : ByteArray} {va1 : Option Addr} {va2 va3 : Nat} (h : ListOf FdC 101 41 base bl n1 xs la cap ys W) (hbl : bl < base) (hn1 : base ≤ n1) (hnm : x.name.size ≤ maxLen) (hcs : TyCs (Fresh n1 W) W x.is k f s (.slice va1 va2 va3))
    (hg : Grew base bl 101 41 (.slice la xs.length cap) (.slice (some ⟨g, 0, none⟩) (xs.length + 1) cap') (xs.length + 1) (ys ++ [.string x.name, .int .i64 k, .string f, .string s, .slice va1 va2 va3]) W W') :
    ListOf FdC 101 41 base bl W'.heap.size (xs ++ [x]) (some ⟨g, 0, none⟩) cap' (ys ++ [.string x.name, .int .i64 k, .string f, .string s, .slice va1 va2 va3]) W' :=
  ListOf.push (C := FdC) (fun hk h => fdC_keep hk h) h hbl hn1 rfl ⟨_, _, _, _, _, _, rfl, hnm, hcs⟩ hg

theorem fdL_sl {base bl n1 n0 : Nat} {xs : List Fd} {la : Option Addr} {cap : Nat} {ys : List Value} {W : World} (h : ListOf FdC 101 41 base bl n1 xs la cap ys W) (hn0 : n0 ≤ base) (hmax : xs.length ≤ maxLen) : SlAt (Fresh n0 W) (FdAt (Fresh n0 W) W) 5 xs (.slice la xs.length cap) :=
  ListOf.toSl (C := FdC) (P := FdAt) (fun hk h => fdC_keep hk h) (fun h1 h2 h3 => fdC_at h1 h2 h3) h hn0 hmax

set_option maxHeartbeats 8000000 in
theorem nextF_go (B : Nat) (l : Toks) (fin : ByteArray) (w0 Wb : World) (base bl br bo bn be bk g1 g : Nat) (lb1 lb : Array Value) (e1 : ∀ args w, (callFunc g1 args).run Tryz.prog w = .ok (.enter g1 args) w) (eg : ∀ args w, (callFunc g args).run Tryz.prog w = .ok (.enter g args) w) (R : Int → World → Prop)
    (hw0 : Moved B w0 Wb) (hBl : B < bl) (h0l : w0.heap.size ≤ bl) (hbl : bl < base)
    (xr : LBox B bl base br (.pointer (some ⟨B, 0, none⟩)) Wb) (xo : LBox B bl base bo (.func (.func g1) #[] lb1) Wb)
    (xn : LBox B bl base bn (.func (.func 313) #[] #[.pointer (some ⟨bl, 0, none⟩), .pointer (some ⟨br, 0, none⟩), .pointer (some ⟨bo, 0, none⟩), .pointer (some ⟨bn, 0, none⟩), .pointer (some ⟨be, 0, none⟩), .pointer (some ⟨bk, 0, none⟩)]) Wb)
    (xe : LBox B bl base be (.string fin) Wb) (xk : LBox B bl base bk (.func (.func g) #[] lb) Wb)
    (hOne : ∀ (i : Nat) (W : World), RdAt B l i W → Kept B bl base Wb W → ∀ (g' : Nat) (lb' : Array Value), (∀ args w, (callFunc g' args).run Tryz.prog w = .ok (.enter g' args) w) →
      (∀ e, pNamed l [58] i = .bad e → ∀ w', Moved B W w' → R e w') →
      (∀ x j, pNamed l [58] i = .ok x j → ∀ w' v, Moved B W w' → RdAt B l j w' → FdIs (Fresh W.heap.size w') w' x v → Calls Tryz.prog g' (#[v] ++ lb') w' (Ends R)) →
      Calls Tryz.prog g1 (#[.func (.func g') #[] lb'] ++ lb1) W (Ends R)) :
    ∀ (N i : Nat) (x : Fd) (v : Value) (n1 : Nat) (xs : List Fd) (la : Option Addr) (lcap : Nat) (ys : List Value) (W : World), l.length ≤ i + N → xs.length ≤ i → RdAt B l i W → Kept B bl base Wb W → base ≤ n1 → n1 ≤ W.heap.size →
      ListOf FdC 101 41 base bl n1 xs la lcap ys W → FdIs (Fresh n1 W) W x v →
      (∀ e, nextRes (pNamed l [58]) l fin.data.toList N xs x i = .bad e → ∀ w', Moved B w0 w' → R e w') →
      (∀ zs j, nextRes (pNamed l [58]) l fin.data.toList N xs x i = .ok zs j → ∀ w' v', Moved B w0 w' → RdAt B l j w' → SlAt (Fresh w0.heap.size w') (FdAt (Fresh w0.heap.size w') w') 5 zs v' → Calls Tryz.prog g (#[v'] ++ lb) w' (Ends R)) →
      Calls Tryz.prog 313 #[v, .pointer (some ⟨bl, 0, none⟩), .pointer (some ⟨br, 0, none⟩), .pointer (some ⟨bo, 0, none⟩), .pointer (some ⟨bn, 0, none⟩), .pointer (some ⟨be, 0, none⟩), .pointer (some ⟨bk, 0, none⟩)] W (Ends R) := by
  intro N
  induction N with
  | zero =>
    intro i x v n1 xs la lcap ys W hN hxi hr hk hn1 hn1W hL hx hbad hok
    obtain ⟨k, fo, s, va, rfl, hnm, hcs⟩ := hx
    obtain ⟨va1, va2, va3, rfl⟩ := hcs.slice
    have hil := rd_le hr
    have h200 := rd_200 hr
    have hm63 : (xs.length + 1 : Nat) ≤ maxLen := by unfold maxLen; omega
    refine nextF_step bl br bo bn be bk base la lcap xs.length ys x.name k fo s va1 va2 va3 W B l i fin g1 g lb1 lb e1 eg R Wb _ hL.box hL.own hk.room hbl hm63 (by omega) hBl hr hk xr xo xn xe xk ?_ ?_ ?_
    · intro hc
      have := sgn_lt hc
      omega
    · intro hc hf g' cap' w w' hG hm hr'
      have hk' := (hk.grew hG hL.own hBl hbl).moved hm
      have hL' := fdL_moved (fdL_push hL hbl hn1 hnm hcs hG) hm hBl hbl
      have hS := fdL_sl (n0 := w0.heap.size) hL' (by omega) (by simp; omega)
      have hlen : (xs ++ [x]).length = xs.length + 1 := by simp
      rw [hlen] at hS
      exact hok (xs ++ [x]) (i + 1) (by unfold nextRes; rw [if_neg (by rw [hc]; simp), if_pos hf]) w' _ (hk'.toMoved hw0 h0l hbl) hr' hS
    · intro hc hf g' cap' w w' hG hm
      exact hbad 4 (by unfold nextRes; rw [if_neg (by rw [hc]; simp), if_neg (by rw [hf]; simp)]) w' (((hk.grew hG hL.own hBl hbl).moved hm).toMoved hw0 h0l hbl)
  | succ N ih =>
    intro i x v n1 xs la lcap ys W hN hxi hr hk hn1 hn1W hL hx hbad hok
    obtain ⟨k, fo, s, va, rfl, hnm, hcs⟩ := hx
    obtain ⟨va1, va2, va3, rfl⟩ := hcs.slice
    have hil := rd_le hr
    have h200 := rd_200 hr
    have hm63 : (xs.length + 1 : Nat) ≤ maxLen := by unfold maxLen; omega
    refine nextF_step bl br bo bn be bk base la lcap xs.length ys x.name k fo s va1 va2 va3 W B l i fin g1 g lb1 lb e1 eg R Wb _ hL.box hL.own hk.room hbl hm63 (by omega) hBl hr hk xr xo xn xe xk ?_ ?_ ?_
    · intro hc g' cap' w w' hG hm hr'
      have hk' := (hk.grew hG hL.own hBl hbl).moved hm
      have hL' := fdL_moved (fdL_push hL hbl hn1 hnm hcs hG) hm hBl hbl
      have hP : nextRes (pNamed l [58]) l fin.data.toList (N + 1) xs x i = pList (pNamed l [58]) l fin.data.toList (N + 1) (xs ++ [x]) (i + 1) := if_pos hc
      refine hOne (i + 1) w' hr' hk' 313 _ (enters_of Tryz.func313 (by kernel_rfl) rfl) ?_ ?_
      · intro e he w'' hm''
        exact hbad e (by rw [hP, pList_bad he]) w'' ((hk'.moved hm'').toMoved hw0 h0l hbl)
      · intro y j hy w'' v hm'' hr'' hv
        have hadv := pNamed_adv hy
        exact ih j y v w'.heap.size (xs ++ [x]) _ _ _ w'' (by omega) (by simp; omega) hr'' (hk'.moved hm'') hk'.room hm''.below.size (fdL_moved (hL'.wider hm.below.size) hm'' hBl hbl) hv
          (fun e he w3 hm3 => hbad e (by rw [hP, pList_ok hy]; exact he) w3 hm3)
          (fun zs j' hz w3 v3 hm3 hr3 hv3 => hok zs j' (by rw [hP, pList_ok hy]; exact hz) w3 v3 hm3 hr3 hv3)
    · intro hc hf g' cap' w w' hG hm hr'
      have hk' := (hk.grew hG hL.own hBl hbl).moved hm
      have hL' := fdL_moved (fdL_push hL hbl hn1 hnm hcs hG) hm hBl hbl
      have hS := fdL_sl (n0 := w0.heap.size) hL' (by omega) (by simp; omega)
      have hlen : (xs ++ [x]).length = xs.length + 1 := by simp
      rw [hlen] at hS
      exact hok (xs ++ [x]) (i + 1) (by unfold nextRes; rw [if_neg (by rw [hc]; simp), if_pos hf]) w' _ (hk'.toMoved hw0 h0l hbl) hr' hS
    · intro hc hf g' cap' w w' hG hm
      exact hbad 4 (by unfold nextRes; rw [if_neg (by rw [hc]; simp), if_neg (by rw [hf]; simp)]) w' (((hk.grew hG hL.own hBl hbl).moved hm).toMoved hw0 h0l hbl)

theorem oneF_next (B : Nat) (l : Toks) (i : Nat) (W : World) (br : Nat) (g : Nat) (lb : Array Value) (eg : ∀ args w, (callFunc g args).run Tryz.prog w = .ok (.enter g args) w) (R : Int → World → Prop) (hr : RdAt B l i W)
    (cr : W.cell? ⟨br, 0, none⟩ = some (.pointer (some ⟨B, 0, none⟩)))
    (hbad : ∀ e, pNamed l [58] i = .bad e → ∀ w', Moved B W w' → R e w')
    (hok : ∀ x j, pNamed l [58] i = .ok x j → ∀ w' v, Moved B W w' → RdAt B l j w' → FdIs (Fresh W.heap.size w') w' x v → Calls Tryz.prog g (#[v] ++ lb) w' (Ends R)) :
    Calls Tryz.prog 271 #[.func (.func g) #[] lb, .pointer (some ⟨br, 0, none⟩)] W (Ends R) := by
  have HE := veil (named_next B l i ⟨#[58]⟩ W g lb eg R hr hbad hok)
  clear hbad hok hr eg
  go_enter Tryz.func271, Tryz.ntmps271
  go_wp2_with fail
  refine HE.out.mono ?_
  rintro e w' ⟨y, rfl, hy⟩
  have HY := veil hy
  clear hy
  go_wp2_with fail
  go_ret
  exact ⟨_, rfl, HY.out⟩

set_option maxHeartbeats 4000000 in
theorem listedF_next (B : Nat) (l : Toks) (i : Nat) (fin : ByteArray) (w : World) (br : Nat) (g : Nat) (lb : Array Value) (eg : ∀ args w, (callFunc g args).run Tryz.prog w = .ok (.enter g args) w) (R : Int → World → Prop) (hr : RdAt B l i w)
    (cr : w.cell? ⟨br, 0, none⟩ = some (.pointer (some ⟨B, 0, none⟩))) (hbr : B < br)
    (hbad : ∀ e, pList (pNamed l [58]) l fin.data.toList (l.length + 1) [] i = .bad e → ∀ w', Moved B w w' → R e w')
    (hok : ∀ xs j, pList (pNamed l [58]) l fin.data.toList (l.length + 1) [] i = .ok xs j → ∀ w' v, Moved B w w' → RdAt B l j w' → SlAt (Fresh w.heap.size w') (FdAt (Fresh w.heap.size w') w') 5 xs v → Calls Tryz.prog g (#[v] ++ lb) w' (Ends R)) :
    Calls Tryz.prog 272 #[.pointer (some ⟨B, 0, none⟩), .string fin, .func (.func 271) #[] #[.pointer (some ⟨br, 0, none⟩)], .func (.func g) #[] lb] w (Ends R) := by
  have hlt := rd_lt hr
  have hbrw : br < w.heap.size := World.block_lt_of_cell? w _ cr
  obtain ⟨Wb, hWb, hsz, p0, p1, p2, p3, p4, p5, hbel⟩ := six_new w (.cells #[.pointer (some ⟨B, 0, none⟩)] 179) (.cells #[.string fin] 9) (.cells #[.func (.func 271) #[] #[.pointer (some ⟨br, 0, none⟩)]] 297) (.cells #[.func (.func g) #[] lb] 250) (.cells #[.slice none 0 0] 41)
    (.cells #[.func (.func 313) #[] #[.pointer (some ⟨w.heap.size + 4, 0, none⟩), .pointer (some ⟨w.heap.size, 0, none⟩), .pointer (some ⟨w.heap.size + 2, 0, none⟩), .pointer (some ⟨w.heap.size + 5, 0, none⟩), .pointer (some ⟨w.heap.size + 1, 0, none⟩), .pointer (some ⟨w.heap.size + 3, 0, none⟩)]] 156)
  have hm : Moved B w Wb := Moved.of_below hbel (by omega)
  have hr0 := rd_below hr hbel
  have cr0 : Wb.cell? ⟨br, 0, none⟩ = some (.pointer (some ⟨B, 0, none⟩)) := (hbel.cell (p := ⟨br, 0, none⟩) hbrw).trans cr
  have xbr : LBox B (w.heap.size + 4) (w.heap.size + 6) br (.pointer (some ⟨B, 0, none⟩)) Wb := ⟨cr0, hbr, by omega, by omega⟩
  have hK0 : Kept B (w.heap.size + 4) (w.heap.size + 6) Wb Wb := ⟨Below.refl _ _, fun _ _ _ _ => rfl, by omega⟩
  have hL0 : ListOf FdC 101 41 (w.heap.size + 6) (w.heap.size + 4) (w.heap.size + 6) [] none 0 [] Wb := ⟨p4, ⟨rfl, Or.inl ⟨rfl, rfl⟩⟩, fun g' h => (by cases h), fun j hj => absurd hj (by simp)⟩
  have cI := oneF_next B l i Wb br 313 #[.pointer (some ⟨w.heap.size + 4, 0, none⟩), .pointer (some ⟨w.heap.size, 0, none⟩), .pointer (some ⟨w.heap.size + 2, 0, none⟩), .pointer (some ⟨w.heap.size + 5, 0, none⟩), .pointer (some ⟨w.heap.size + 1, 0, none⟩), .pointer (some ⟨w.heap.size + 3, 0, none⟩)] (enters_of Tryz.func313 (by kernel_rfl) rfl) R hr0 cr0
    (fun e he w' hm' => hbad e (pList_bad he) w' (hm.trans hm'))
    (fun x j hx w' v hm' hr' hv => by
      refine nextF_go B l fin w Wb (w.heap.size + 6) (w.heap.size + 4) w.heap.size (w.heap.size + 2) (w.heap.size + 5) (w.heap.size + 1) (w.heap.size + 3) 271 g #[.pointer (some ⟨br, 0, none⟩)] lb (enters_of Tryz.func271 (by kernel_rfl) rfl) eg R hm (by omega) (by omega) (by omega)
        ⟨box_cell p0, by omega, by omega, by omega⟩ ⟨box_cell p2, by omega, by omega, by omega⟩ ⟨box_cell p5, by omega, by omega, by omega⟩ ⟨box_cell p1, by omega, by omega, by omega⟩ ⟨box_cell p3, by omega, by omega, by omega⟩
        (fun i' W hr1 hk1 g' lb' eg' hbad' hok' => oneF_next B l i' W br g' lb' eg' R hr1 (xbr.later hk1) hbad' hok')
        l.length j x v (w.heap.size + 6) [] none 0 [] w' (by omega) (by simp) hr' (hK0.moved hm') (Nat.le_refl _) (by have := hm'.below.size; omega) (fdL_moved hL0 hm' (by omega) (by omega)) (by rw [hsz] at hv; exact hv) ?_ ?_
      · intro e he w'' hm''
        exact hbad e (by rw [pList_ok hx]; exact he) w'' hm''
      · intro zs j' hz w'' v' hm'' hr'' hv'
        exact hok zs j' (by rw [pList_ok hx]; exact hz) w'' v' hm'' hr'' hv')
  rw [← hWb] at cI
  have HCI := veil cI
  have hef := makeFunc_run
  have e1 := enters_of (P := Tryz.prog) Tryz.func271 (by kernel_rfl) rfl
  clear cI hbad hok hr hWb hsz p0 p1 p2 p3 p4 p5 hbel hm hr0 cr0 xbr hK0 hL0 cr eg hbrw
  go_enter Tryz.func272, Tryz.ntmps272
  go_wp2_with fail
  refine HCI.out.mono ?_
  rintro e w' ⟨y, rfl, hy⟩
  have HY := veil hy
  clear hy
  go_wp2_with fail
  go_ret
  exact ⟨_, rfl, HY.out⟩

/-- the reader's params reads as 'pParams' says. -/
def ParamsReads : Prop := ∀ (B : Nat) (l : Toks) (i : Nat) (w : World) (g : Nat) (lb : Array Value), (∀ args w, (callFunc g args).run Tryz.prog w = .ok (.enter g args) w) → ∀ (R : Int → World → Prop), RdAt B l i w →
    (∀ e, pParams l i = .bad e → ∀ w', Moved B w w' → R e w') →
    (∀ xs j, pParams l i = .ok xs j → ∀ w' v, Moved B w w' → RdAt B l j w' → SlAt (Fresh w.heap.size w') (FdAt (Fresh w.heap.size w') w') 5 xs v → Calls Tryz.prog g (#[v] ++ lb) w' (Ends R)) →
    Calls Tryz.prog 199 #[.pointer (some ⟨B, 0, none⟩), .func (.func g) #[] lb] w (Ends R)

set_option maxHeartbeats 2000000 in
theorem params_next : ParamsReads := by
  intro B l i w g lb eg R hr hbad hok
  have hlt := rd_lt hr
  have hal : Below w.heap.size w (w.alloc (.cells #[.pointer (some ⟨B, 0, none⟩)] 179)) := (Below.refl _ _).alloc (Nat.le_refl _) _
  have HM0 : Hid (Moved B w (w.alloc (.cells #[.pointer (some ⟨B, 0, none⟩)] 179))) := Moved.of_below hal (by omega)
  have HR0 := veil (rd_below hr hal)
  have HBad := veil hbad
  have HOk := veil hok
  have HEg := veil eg
  have hef := makeFunc_run
  clear hbad hok hr hal eg
  go_enter Tryz.func199, Tryz.ntmps199
  go_wp2_with fail
  refine (sign_next B l i ⟨#[41]⟩ _ HR0.out).mono ?_
  rintro e w1 ⟨rfl, q1, q2⟩
  have HM1 := veil (HM0.out.trans q2)
  have hsz1 : w.heap.size + 1 ≤ w1.heap.size := by have := q2.below.size; simpa using this
  have c1 : w1.cell? ⟨w.heap.size, 0, none⟩ = some (.pointer (some ⟨B, 0, none⟩)) := (q2.cell (by omega) (by simp) 0).trans (World.cell?_alloc_at _ _ _ _ rfl)
  cases hs : sgn l i [41]
  · have hs' : sgn l i (ByteArray.mk #[41]).data.toList = false := hs
    rw [hs'] at q1
    have q1' : RdAt B l i w1 := q1
    have hP : pParams l i = pList (pNamed l [58]) l [41] (l.length + 1) [] i := by unfold pParams; rw [if_neg (by rw [hs]; simp)]
    have cI := listedF_next B l i ⟨#[41]⟩ w1 w.heap.size g lb HEg.out R q1' c1 (by omega)
      (fun e he w' hm' => HBad.out e (by rw [hP]; exact he) w' (HM1.out.trans hm'))
      (fun xs j hx w' v hm' hr' hv => HOk.out xs j (by rw [hP]; exact hx) w' v (HM1.out.trans hm') hr' (fdSl_keep ⟨fun _ _ => rfl, fun b hb => ⟨by have := hb.1; omega, hb.2⟩⟩ hv))
    have HCI := veil cI
    try rw [hs']
    clear q1 q1' q2 hs hs' HBad HOk cI hP
    go_wp2_with fail
    refine HCI.out.mono ?_
    rintro e w' ⟨y, rfl, hy⟩
    have HY := veil hy
    clear hy
    go_wp2_with fail
    go_ret
    exact ⟨_, rfl, HY.out⟩
  · have hs' : sgn l i (ByteArray.mk #[41]).data.toList = true := hs
    rw [hs'] at q1
    have q1' : RdAt B l (i + 1) w1 := q1
    have HCI := veil (HOk.out [] (i + 1) (by unfold pParams; rw [if_pos hs]) w1 _ HM1.out q1' none_sl)
    have eg := HEg.out
    try rw [hs']
    clear q1 q1' q2 hs hs' HBad HOk
    go_wp2_with fail
    refine HCI.out.mono ?_
    rintro e w' ⟨y, rfl, hy⟩
    have HY := veil hy
    clear hy
    go_wp2_with fail
    go_ret
    exact ⟨_, rfl, HY.out⟩

end Go.Proofs.YtagbaimfigljiaaGreatDoor
namespace Go.Proofs.YtagbaimfigljiaaGreatDoor
open Go.RowKit
set_option maxRecDepth 100000

/-- the boxes of a function's reading. -/
structure FBox (B : Nat) (br bk bn bv : Nat) (g : Nat) (lb : Array Value) (nm vr : ByteArray) (W : World) : Prop where
  r : W.cell? ⟨br, 0, none⟩ = some (.pointer (some ⟨B, 0, none⟩))
  k : W.cell? ⟨bk, 0, none⟩ = some (.func (.func g) #[] lb)
  n : W.cell? ⟨bn, 0, none⟩ = some (.string nm)
  v : W.cell? ⟨bv, 0, none⟩ = some (.string vr)
  hr : B < br
  hk : B < bk
  hn : B < bn
  hv : B < bv

theorem FBox.keep {B br bk bn bv g : Nat} {lb : Array Value} {nm vr : ByteArray} {W W' : World} (h : FBox B br bk bn bv g lb nm vr W) (hm : Moved B W W') : FBox B br bk bn bv g lb nm vr W' :=
  ⟨(hm.cell h.hr (World.block_lt_of_cell? W _ h.r) 0).trans h.r, (hm.cell h.hk (World.block_lt_of_cell? W _ h.k) 0).trans h.k, (hm.cell h.hn (World.block_lt_of_cell? W _ h.n) 0).trans h.n, (hm.cell h.hv (World.block_lt_of_cell? W _ h.v) 0).trans h.v, h.hr, h.hk, h.hn, h.hv⟩

set_option maxHeartbeats 2000000 in
/-- behind a function's body. -/
theorem fun_back3 (g : Nat) (lb : Array Value) (eg : ∀ args w, (callFunc g args).run Tryz.prog w = .ok (.enter g args) w) (R : Int → World → Prop) (bk bn bv bp bt : Nat) (nm vr : ByteArray) (vp1 : Option Addr) (vp2 vp3 : Nat) (k : Int) (f n : ByteArray) (va1 : Option Addr) (va2 va3 : Nat) (k' n' : Int) (f' s' : ByteArray) (ve1 : Option Addr) (ve2 ve3 : Nat) (W : World)
    (ck : W.cell? ⟨bk, 0, none⟩ = some (.func (.func g) #[] lb)) (cn : W.cell? ⟨bn, 0, none⟩ = some (.string nm)) (cv : W.cell? ⟨bv, 0, none⟩ = some (.string vr)) (cp : W.cell? ⟨bp, 0, none⟩ = some (.slice vp1 vp2 vp3))
    (t0 : W.cell? ⟨bt, 0, none⟩ = some (.int .i64 k)) (t1 : W.cell? ⟨bt, 1, none⟩ = some (.string f)) (t2 : W.cell? ⟨bt, 2, none⟩ = some (.string n)) (t3 : W.cell? ⟨bt, 3, none⟩ = some (.slice va1 va2 va3))
    (h : Calls Tryz.prog g (#[.agg #[.string nm, .string vr, .slice vp1 vp2 vp3, .int .i64 k, .string f, .string n, .slice va1 va2 va3, .int .i64 k', .int .i64 n', .string f', .string s', .slice ve1 ve2 ve3]] ++ lb) (W.alloc (.cells #[.int .i64 k', .int .i64 n', .string f', .string s', .slice ve1 ve2 ve3] 87)) (Ends R)) :
    Calls Tryz.prog 203 #[.agg #[.int .i64 k', .int .i64 n', .string f', .string s', .slice ve1 ve2 ve3], .pointer (some ⟨bk, 0, none⟩), .pointer (some ⟨bn, 0, none⟩), .pointer (some ⟨bv, 0, none⟩), .pointer (some ⟨bp, 0, none⟩), .pointer (some ⟨bt, 0, none⟩)] W (Ends R) := by
  have HK := veil h
  have hbk : bk < W.heap.size := World.block_lt_of_cell? W _ ck
  have hbn : bn < W.heap.size := World.block_lt_of_cell? W _ cn
  have hbv : bv < W.heap.size := World.block_lt_of_cell? W _ cv
  have hbp : bp < W.heap.size := World.block_lt_of_cell? W _ cp
  have hbt : bt < W.heap.size := World.block_lt_of_cell? W _ t0
  clear h
  go_enter Tryz.func203, Tryz.ntmps203
  go_wp2_with fail
  refine HK.out.mono ?_
  rintro e w' ⟨y, rfl, hy⟩
  have HY := veil hy
  clear hy
  go_wp2_with fail
  go_ret
  exact ⟨_, rfl, HY.out⟩

set_option maxHeartbeats 4000000 in
/-- behind a function's result. -/
theorem fun_back2 (B : Nat) (l : Toks) (j n0 : Nat) (g : Nat) (lb : Array Value) (eg : ∀ args w, (callFunc g args).run Tryz.prog w = .ok (.enter g args) w) (R : Int → World → Prop) (br bk bn bv bp : Nat) (nm vr : ByteArray) (ps : List Fd) (t : Ty) (vp1 : Option Addr) (vp2 vp3 : Nat) (k : Int) (f n : ByteArray) (va1 : Option Addr) (va2 va3 : Nat) (W : World)
    (hr : RdAt B l j W) (hBn : B < n0) (hnW : n0 ≤ W.heap.size) (hbx : FBox B br bk bn bv g lb nm vr W) (cp : W.cell? ⟨bp, 0, none⟩ = some (.slice vp1 vp2 vp3)) (hbp : B < bp) (hnm : nm.size ≤ maxLen) (hvr : vr.size ≤ maxLen)
    (hps : SlAt (Fresh n0 W) (FdAt (Fresh n0 W) W) 5 ps (.slice vp1 vp2 vp3)) (ht : TyCs (Fresh n0 W) W t k f n (.slice va1 va2 va3))
    (hno : sgn l j [61] = false → ∀ w', Moved B W w' → R 4 w')
    (hbad : sgn l j [61] = true → ∀ e, pEx l 40 (j + 1) = .bad e → ∀ w', Moved B W w' → R e w')
    (hok : sgn l j [61] = true → ∀ x j', pEx l 40 (j + 1) = .ok x j' → ∀ w' v, Moved B W w' → RdAt B l j' w' → FuIs (Fresh n0 w') w' ⟨nm, vr, ps, t, x⟩ v → Calls Tryz.prog g (#[v] ++ lb) w' (Ends R)) :
    Calls Tryz.prog 201 #[.agg #[.int .i64 k, .string f, .string n, .slice va1 va2 va3], .pointer (some ⟨br, 0, none⟩), .pointer (some ⟨bk, 0, none⟩), .pointer (some ⟨bn, 0, none⟩), .pointer (some ⟨bv, 0, none⟩), .pointer (some ⟨bp, 0, none⟩)] W (Ends R) := by
  have hlt := rd_lt hr
  have hbpW : bp < W.heap.size := World.block_lt_of_cell? W _ cp
  have hal : Below W.heap.size W (W.alloc (.cells #[.int .i64 k, .string f, .string n, .slice va1 va2 va3] 84)) := (Below.refl _ _).alloc (Nat.le_refl _) _
  have hm0 : Moved B W (W.alloc (.cells #[.int .i64 k, .string f, .string n, .slice va1 va2 va3] 84)) := Moved.of_below hal (by omega)
  have HM0 := veil hm0
  have HR0 := veil (rd_below hr hal)
  have hbx0 := hbx.keep hm0
  have cr := hbx0.r
  have HBx := veil hbx
  have HCp := veil cp
  have HPs := veil hps
  have HT := veil ht
  have HNo := veil hno
  have HBad := veil hbad
  have HOk := veil hok
  have HEg := veil eg
  have HNm := veil hnm
  have HVr := veil hvr
  have hef := makeFunc_run
  clear hr hbx cp hps ht hno hbad hok eg hnm hvr hal hm0 hbx0
  go_enter Tryz.func201, Tryz.ntmps201
  go_wp2_with fail
  refine (sign_next B l j ⟨#[61]⟩ _ HR0.out).mono ?_
  rintro e w1 ⟨rfl, q1, q2⟩
  have hm1 := HM0.out.trans q2
  have HM1 := veil hm1
  have hsz1 : W.heap.size + 1 ≤ w1.heap.size := by have := q2.below.size; simpa using this
  cases hs : sgn l j [61]
  · have hs' : sgn l j (ByteArray.mk #[61]).data.toList = false := hs
    have HB := veil (HNo.out hs w1 hm1)
    try rw [hs']
    clear q1 q2 hs hs' hm1 cr
    go_wp2_with fail
    go_ret
    exact ⟨_, rfl, HB.out⟩
  · have hs' : sgn l j (ByteArray.mk #[61]).data.toList = true := hs
    rw [hs'] at q1
    have q1' : RdAt B l (j + 1) w1 := q1
    have b0 : w1.cell? ⟨W.heap.size, 0, none⟩ = some (.int .i64 k) := (q2.cell (by omega) (by simp) 0).trans (World.cell?_alloc_at _ _ _ _ rfl)
    have b1 : w1.cell? ⟨W.heap.size, 1, none⟩ = some (.string f) := (q2.cell (by omega) (by simp) 1).trans (World.cell?_alloc_at _ _ _ _ rfl)
    have b2 : w1.cell? ⟨W.heap.size, 2, none⟩ = some (.string n) := (q2.cell (by omega) (by simp) 2).trans (World.cell?_alloc_at _ _ _ _ rfl)
    have b3 : w1.cell? ⟨W.heap.size, 3, none⟩ = some (.slice va1 va2 va3) := (q2.cell (by omega) (by simp) 3).trans (World.cell?_alloc_at _ _ _ _ rfl)
    have cE := expr_next 40 1 rfl B l (j + 1) w1 203 #[.pointer (some ⟨bk, 0, none⟩), .pointer (some ⟨bn, 0, none⟩), .pointer (some ⟨bv, 0, none⟩), .pointer (some ⟨bp, 0, none⟩), .pointer (some ⟨W.heap.size, 0, none⟩)] (enters_of Tryz.func203 (by kernel_rfl) rfl) R q1'
      (fun e he w' hm' => HBad.out hs e he w' (hm1.trans hm'))
      (fun x j' hx w' v hm' hr' hv => by
        obtain ⟨k', n', f', s', va, rfl, hcs⟩ := hv
        obtain ⟨ve1, ve2, ve3, rfl⟩ := hcs.slice
        have hm2 := hm1.trans hm'
        have hbx' := HBx.out.keep hm2
        have hsz' := hm'.below.size
        have hal3 : Below w'.heap.size w' (w'.alloc (.cells #[.int .i64 k', .int .i64 n', .string f', .string s', .slice ve1 ve2 ve3] 87)) := (Below.refl _ _).alloc (Nat.le_refl _) _
        have hm3 : Moved B w' (w'.alloc (.cells #[.int .i64 k', .int .i64 n', .string f', .string s', .slice ve1 ve2 ve3] 87)) := Moved.of_below hal3 (by omega)
        refine fun_back3 g lb HEg.out R bk bn bv bp W.heap.size nm vr vp1 vp2 vp3 k f n va1 va2 va3 k' n' f' s' ve1 ve2 ve3 w' hbx'.k hbx'.n hbx'.v ((hm2.cell hbp hbpW 0).trans HCp.out) ((hm'.cell (by omega) (by omega) 0).trans b0) ((hm'.cell (by omega) (by omega) 1).trans b1) ((hm'.cell (by omega) (by omega) 2).trans b2) ((hm'.cell (by omega) (by omega) 3).trans b3) ?_
        have hk1 := fresh_keeps hBn (hm2.trans hm3)
        refine HOk.out hs x j' hx _ _ (hm2.trans hm3) (rd_below hr' hal3) ⟨_, k, f, n, _, k', n', f', s', _, rfl, HNm.out, HVr.out, fdSl_keep hk1 HPs.out, HT.out.keep hk1, ?_⟩
        exact hcs.keep ⟨fun b hb => hm3.above b (by have := hb.1; omega) hb.2, fun b hb => ⟨by have := hb.1; omega, Nat.lt_of_lt_of_le hb.2 hal3.size⟩⟩)
    have HCE := veil cE
    have cr1 := (HBx.out.keep hm1).r
    try rw [hs']
    clear q1 q1' q2 hs hs' hm1 cE cr b0 b1 b2 b3
    go_wp2_with fail
    refine HCE.out.mono ?_
    rintro e w' ⟨y, rfl, hy⟩
    have HY := veil hy
    clear hy
    go_wp2_with fail
    go_ret
    exact ⟨_, rfl, HY.out⟩

set_option maxHeartbeats 4000000 in
/-- behind a function's params. -/
theorem fun_back1 (B : Nat) (l : Toks) (j n0 : Nat) (g : Nat) (lb : Array Value) (eg : ∀ args w, (callFunc g args).run Tryz.prog w = .ok (.enter g args) w) (R : Int → World → Prop) (br bk bn bv : Nat) (nm vr : ByteArray) (ps : List Fd) (vp1 : Option Addr) (vp2 vp3 : Nat) (W : World)
    (hr : RdAt B l j W) (hBn : B < n0) (hnW : n0 ≤ W.heap.size) (hbx : FBox B br bk bn bv g lb nm vr W) (hnm : nm.size ≤ maxLen) (hvr : vr.size ≤ maxLen)
    (hps : SlAt (Fresh n0 W) (FdAt (Fresh n0 W) W) 5 ps (.slice vp1 vp2 vp3))
    (hno : sgn l j [58] = false → ∀ w', Moved B W w' → R 4 w')
    (hbadT : sgn l j [58] = true → ∀ e, pTy l 40 (j + 1) = .bad e → ∀ w', Moved B W w' → R e w')
    (hno2 : sgn l j [58] = true → ∀ t j2, pTy l 40 (j + 1) = .ok t j2 → sgn l j2 [61] = false → ∀ w', Moved B W w' → R 4 w')
    (hbad : sgn l j [58] = true → ∀ t j2, pTy l 40 (j + 1) = .ok t j2 → sgn l j2 [61] = true → ∀ e, pEx l 40 (j2 + 1) = .bad e → ∀ w', Moved B W w' → R e w')
    (hok : sgn l j [58] = true → ∀ t j2, pTy l 40 (j + 1) = .ok t j2 → sgn l j2 [61] = true → ∀ x j', pEx l 40 (j2 + 1) = .ok x j' → ∀ w' v, Moved B W w' → RdAt B l j' w' → FuIs (Fresh n0 w') w' ⟨nm, vr, ps, t, x⟩ v → Calls Tryz.prog g (#[v] ++ lb) w' (Ends R)) :
    Calls Tryz.prog 200 #[.slice vp1 vp2 vp3, .pointer (some ⟨br, 0, none⟩), .pointer (some ⟨bk, 0, none⟩), .pointer (some ⟨bn, 0, none⟩), .pointer (some ⟨bv, 0, none⟩)] W (Ends R) := by
  have hlt := rd_lt hr
  have hal : Below W.heap.size W (W.alloc (.cells #[.slice vp1 vp2 vp3] 41)) := (Below.refl _ _).alloc (Nat.le_refl _) _
  have hm0 : Moved B W (W.alloc (.cells #[.slice vp1 vp2 vp3] 41)) := Moved.of_below hal (by omega)
  have HM0 := veil hm0
  have HR0 := veil (rd_below hr hal)
  have hbx0 := hbx.keep hm0
  have cr := hbx0.r
  have HBx := veil hbx
  have HPs := veil hps
  have HNo := veil hno
  have HBadT := veil hbadT
  have HNo2 := veil hno2
  have HBad := veil hbad
  have HOk := veil hok
  have HEg := veil eg
  have HNm := veil hnm
  have HVr := veil hvr
  have hef := makeFunc_run
  clear hr hbx hps hno hbad hok eg hnm hvr hal hm0 hbx0 hbadT hno2
  go_enter Tryz.func200, Tryz.ntmps200
  go_wp2_with fail
  refine (sign_next B l j ⟨#[58]⟩ _ HR0.out).mono ?_
  rintro e w1 ⟨rfl, q1, q2⟩
  have hm1 := HM0.out.trans q2
  have HM1 := veil hm1
  have hsz1 : W.heap.size + 1 ≤ w1.heap.size := by have := q2.below.size; simpa using this
  cases hs : sgn l j [58]
  · have hs' : sgn l j (ByteArray.mk #[58]).data.toList = false := hs
    have HB := veil (HNo.out hs w1 hm1)
    try rw [hs']
    clear q1 q2 hs hs' hm1 cr
    go_wp2_with fail
    go_ret
    exact ⟨_, rfl, HB.out⟩
  · have hs' : sgn l j (ByteArray.mk #[58]).data.toList = true := hs
    rw [hs'] at q1
    have q1' : RdAt B l (j + 1) w1 := q1
    have b0 : w1.cell? ⟨W.heap.size, 0, none⟩ = some (.slice vp1 vp2 vp3) := (q2.cell (by omega) (by simp) 0).trans (World.cell?_alloc_at _ _ _ _ rfl)
    have cT := typ_next 40 1 rfl B l (j + 1) w1 201 #[.pointer (some ⟨br, 0, none⟩), .pointer (some ⟨bk, 0, none⟩), .pointer (some ⟨bn, 0, none⟩), .pointer (some ⟨bv, 0, none⟩), .pointer (some ⟨W.heap.size, 0, none⟩)] (enters_of Tryz.func201 (by kernel_rfl) rfl) R q1'
      (fun e he w' hm' => HBadT.out hs e he w' (hm1.trans hm'))
      (fun t j2 hty w' v hm' hr' hv => by
        obtain ⟨k, f, n, va, rfl, hcs⟩ := hv
        obtain ⟨va1, va2, va3, rfl⟩ := hcs.slice
        have hm2 := hm1.trans hm'
        have hsz' := hm'.below.size
        have hk1 := fresh_keeps hBn hm2
        exact fun_back2 B l j2 n0 g lb HEg.out R br bk bn bv W.heap.size nm vr ps t vp1 vp2 vp3 k f n va1 va2 va3 w' hr' hBn (by omega) (HBx.out.keep hm2) ((hm'.cell (by omega) (by omega) 0).trans b0) (by omega) HNm.out HVr.out (fdSl_keep hk1 HPs.out)
          (hcs.keep ⟨fun _ _ => rfl, fun b hb => ⟨by have := hb.1; omega, hb.2⟩⟩)
          (fun h2 w'' hm'' => HNo2.out hs t j2 hty h2 w'' (hm2.trans hm''))
          (fun h2 e he w'' hm'' => HBad.out hs t j2 hty h2 e he w'' (hm2.trans hm''))
          (fun h2 x j' hx w'' v' hm'' hr'' hv' => HOk.out hs t j2 hty h2 x j' hx w'' v' (hm2.trans hm'') hr'' hv'))
    have HCT := veil cT
    have cr1 := (HBx.out.keep hm1).r
    try rw [hs']
    clear q1 q1' q2 hs hs' hm1 cT cr b0
    go_wp2_with fail
    refine HCT.out.mono ?_
    rintro e w' ⟨y, rfl, hy⟩
    have HY := veil hy
    clear hy
    go_wp2_with fail
    go_ret
    exact ⟨_, rfl, HY.out⟩

end Go.Proofs.YtagbaimfigljiaaGreatDoor
