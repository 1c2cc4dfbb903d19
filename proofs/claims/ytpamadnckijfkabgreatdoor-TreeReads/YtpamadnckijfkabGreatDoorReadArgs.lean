/- What the reader's args answers, at every reader and every way back: the list that is next, handed to the way back; or what is wrong first. So the reading of expressions: what is next, whatever stands within. -/
import Derived.Test.YtpamadnckijfkabGreatDoorReadNext
import Derived.Test.YtpamadnckijfkabGreatDoorReadHead
namespace Go.Proofs.YtpamadnckijfkabGreatDoor
open Go.RowKit
set_option maxRecDepth 100000

theorem rd_le {B : Nat} {l : Toks} {i : Nat} {w : World} (h : RdAt B l i w) : i ≤ l.length := by obtain ⟨_, _, _, h⟩ := h; exact h
theorem rd_200 {B : Nat} {l : Toks} {i : Nat} {w : World} (h : RdAt B l i w) : l.length ≤ 200 := by obtain ⟨_, _, ⟨⟨h, _⟩, _⟩, _⟩ := h; exact h

theorem ListOf.wider {α : Type} {C : (Nat → Prop) → World → α → List Value → Prop} {T Tl : TypeId} {base bl n1 n2 : Nat} {xs : List α} {la : Option Addr} {cap : Nat} {ys : List Value} {W : World} (h : ListOf C T Tl base bl n1 xs la cap ys W) (hn : n1 ≤ n2) : ListOf C T Tl base bl n2 xs la cap ys W :=
  ⟨h.box, h.own, fun g hg => Nat.lt_of_lt_of_le (h.old g hg) hn, h.items⟩

theorem exL_moved {B base bl n1 : Nat} {xs : List Ex} {la : Option Addr} {cap : Nat} {ys : List Value} {W W' : World} (h : ListOf ExC 52 50 base bl n1 xs la cap ys W) (hm : Moved B W W') (hB : B < bl) (hbl : bl < base) : ListOf ExC 52 50 base bl n1 xs la cap ys W' :=
  ListOf.moved (C := ExC) (fun hk h => exC_keep hk h) h hm hB hbl

theorem exL_push {base bl n1 : Nat} {xs : List Ex} {x : Ex} {la : Option Addr} {cap g cap' : Nat} {ys : List Value} {W W' : World} {k n : Int} {f s : ByteArray} {va1 : Option Addr} {va2 va3 : Nat} (h : ListOf ExC 52 50 base bl n1 xs la cap ys W) (hbl : bl < base) (hn1 : base ≤ n1) (hcs : ExCs (Fresh n1 W) W x k n f s (.slice va1 va2 va3))
    (hg : Grew base bl 52 50 (.slice la xs.length cap) (.slice (some ⟨g, 0, none⟩) (xs.length + 1) cap') (xs.length + 1) (ys ++ [.int .i64 k, .int .i64 n, .string f, .string s, .slice va1 va2 va3]) W W') :
    ListOf ExC 52 50 base bl W'.heap.size (xs ++ [x]) (some ⟨g, 0, none⟩) cap' (ys ++ [.int .i64 k, .int .i64 n, .string f, .string s, .slice va1 va2 va3]) W' :=
  ListOf.push (C := ExC) (fun hk h => exC_keep hk h) h hbl hn1 rfl ⟨_, _, _, _, _, _, _, rfl, hcs⟩ hg

theorem exL_sl {base bl n1 n0 : Nat} {xs : List Ex} {la : Option Addr} {cap : Nat} {ys : List Value} {W : World} (h : ListOf ExC 52 50 base bl n1 xs la cap ys W) (hn0 : n0 ≤ base) (hmax : xs.length ≤ maxLen) : SlAt (Fresh n0 W) (ExAt (Fresh n0 W) W) 5 xs (.slice la xs.length cap) :=
  ListOf.toSl (C := ExC) (P := ExAt) (fun hk h => exC_keep hk h) (fun h1 h2 h3 => exC_at h1 h2 h3) h hn0 hmax

set_option maxHeartbeats 8000000 in
theorem next_go (f : Nat) (B : Nat) (l : Toks) (fin : ByteArray) (w0 Wb : World) (base bl br bo bn be bk g1 g : Nat) (lb1 lb : Array Value) (e1 : ∀ args w, (callFunc g1 args).run Tryz.prog w = .ok (.enter g1 args) w) (eg : ∀ args w, (callFunc g args).run Tryz.prog w = .ok (.enter g args) w) (R : Int → World → Prop)
    (hw0 : Moved B w0 Wb) (hBl : B < bl) (h0l : w0.heap.size ≤ bl) (hbl : bl < base)
    (xr : LBox B bl base br (.pointer (some ⟨B, 0, none⟩)) Wb) (xo : LBox B bl base bo (.func (.func g1) #[] lb1) Wb)
    (xn : LBox B bl base bn (.func (.func 162) #[] #[.pointer (some ⟨bl, 0, none⟩), .pointer (some ⟨br, 0, none⟩), .pointer (some ⟨bo, 0, none⟩), .pointer (some ⟨bn, 0, none⟩), .pointer (some ⟨be, 0, none⟩), .pointer (some ⟨bk, 0, none⟩)]) Wb)
    (xe : LBox B bl base be (.string fin) Wb) (xk : LBox B bl base bk (.func (.func g) #[] lb) Wb)
    (hOne : ∀ (i : Nat) (W : World), RdAt B l i W → Kept B bl base Wb W → ∀ (g' : Nat) (lb' : Array Value), (∀ args w, (callFunc g' args).run Tryz.prog w = .ok (.enter g' args) w) →
      (∀ e, pEx l f i = .bad e → ∀ w', Moved B W w' → R e w') →
      (∀ x j, pEx l f i = .ok x j → ∀ w' v, Moved B W w' → RdAt B l j w' → ExIs (Fresh W.heap.size w') w' x v → Calls Tryz.prog g' (#[v] ++ lb') w' (Ends R)) →
      Calls Tryz.prog g1 (#[.func (.func g') #[] lb'] ++ lb1) W (Ends R)) :
    ∀ (N i : Nat) (x : Ex) (v : Value) (n1 : Nat) (xs : List Ex) (la : Option Addr) (lcap : Nat) (ys : List Value) (W : World), l.length ≤ i + N → xs.length ≤ i → RdAt B l i W → Kept B bl base Wb W → base ≤ n1 → n1 ≤ W.heap.size →
      ListOf ExC 52 50 base bl n1 xs la lcap ys W → ExIs (Fresh n1 W) W x v →
      (∀ e, nextRes (pEx l f) l fin.data.toList N xs x i = .bad e → ∀ w', Moved B w0 w' → R e w') →
      (∀ zs j, nextRes (pEx l f) l fin.data.toList N xs x i = .ok zs j → ∀ w' v', Moved B w0 w' → RdAt B l j w' → SlAt (Fresh w0.heap.size w') (ExAt (Fresh w0.heap.size w') w') 5 zs v' → Calls Tryz.prog g (#[v'] ++ lb) w' (Ends R)) →
      Calls Tryz.prog 162 #[v, .pointer (some ⟨bl, 0, none⟩), .pointer (some ⟨br, 0, none⟩), .pointer (some ⟨bo, 0, none⟩), .pointer (some ⟨bn, 0, none⟩), .pointer (some ⟨be, 0, none⟩), .pointer (some ⟨bk, 0, none⟩)] W (Ends R) := by
  intro N
  induction N with
  | zero =>
    intro i x v n1 xs la lcap ys W hN hxi hr hk hn1 hn1W hL hx hbad hok
    obtain ⟨k, nu, fo, s, va, rfl, hcs⟩ := hx
    obtain ⟨va1, va2, va3, rfl⟩ := hcs.slice
    have hil := rd_le hr
    have h200 := rd_200 hr
    have hm63 : (xs.length + 1 : Nat) ≤ maxLen := by unfold maxLen; omega
    refine next_step bl br bo bn be bk base la lcap xs.length ys k nu fo s va1 va2 va3 W B l i fin g1 g lb1 lb e1 eg R Wb _ hL.box hL.own hk.room hbl hm63 (by omega) hBl hr hk xr xo xn xe xk ?_ ?_ ?_
    · intro hc
      have := sgn_lt hc
      omega
    · intro hc hf g' cap' w w' hG hm hr'
      have hk' := (hk.grew hG hL.own hBl hbl).moved hm
      have hL' := exL_moved (exL_push hL hbl hn1 hcs hG) hm hBl hbl
      have hS := exL_sl (n0 := w0.heap.size) hL' (by omega) (by simp; omega)
      have hlen : (xs ++ [x]).length = xs.length + 1 := by simp
      rw [hlen] at hS
      exact hok (xs ++ [x]) (i + 1) (by unfold nextRes; rw [if_neg (by rw [hc]; simp), if_pos hf]) w' _ (hk'.toMoved hw0 h0l hbl) hr' hS
    · intro hc hf g' cap' w w' hG hm
      exact hbad 4 (by unfold nextRes; rw [if_neg (by rw [hc]; simp), if_neg (by rw [hf]; simp)]) w' (((hk.grew hG hL.own hBl hbl).moved hm).toMoved hw0 h0l hbl)
  | succ N ih =>
    intro i x v n1 xs la lcap ys W hN hxi hr hk hn1 hn1W hL hx hbad hok
    obtain ⟨k, nu, fo, s, va, rfl, hcs⟩ := hx
    obtain ⟨va1, va2, va3, rfl⟩ := hcs.slice
    have hil := rd_le hr
    have h200 := rd_200 hr
    have hm63 : (xs.length + 1 : Nat) ≤ maxLen := by unfold maxLen; omega
    refine next_step bl br bo bn be bk base la lcap xs.length ys k nu fo s va1 va2 va3 W B l i fin g1 g lb1 lb e1 eg R Wb _ hL.box hL.own hk.room hbl hm63 (by omega) hBl hr hk xr xo xn xe xk ?_ ?_ ?_
    · intro hc g' cap' w w' hG hm hr'
      have hk' := (hk.grew hG hL.own hBl hbl).moved hm
      have hL' := exL_moved (exL_push hL hbl hn1 hcs hG) hm hBl hbl
      have hP : nextRes (pEx l f) l fin.data.toList (N + 1) xs x i = pList (pEx l f) l fin.data.toList (N + 1) (xs ++ [x]) (i + 1) := if_pos hc
      refine hOne (i + 1) w' hr' hk' 162 _ (enters_of Tryz.func162 (by kernel_rfl) rfl) ?_ ?_
      · intro e he w'' hm''
        exact hbad e (by rw [hP, pList_bad he]) w'' ((hk'.moved hm'').toMoved hw0 h0l hbl)
      · intro y j hy w'' v hm'' hr'' hv
        have hadv := pEx_adv f _ _ _ hy
        exact ih j y v w'.heap.size (xs ++ [x]) _ _ _ w'' (by omega) (by simp; omega) hr'' (hk'.moved hm'') hk'.room hm''.below.size (exL_moved (hL'.wider hm.below.size) hm'' hBl hbl) hv
          (fun e he w3 hm3 => hbad e (by rw [hP, pList_ok hy]; exact he) w3 hm3)
          (fun zs j' hz w3 v3 hm3 hr3 hv3 => hok zs j' (by rw [hP, pList_ok hy]; exact hz) w3 v3 hm3 hr3 hv3)
    · intro hc hf g' cap' w w' hG hm hr'
      have hk' := (hk.grew hG hL.own hBl hbl).moved hm
      have hL' := exL_moved (exL_push hL hbl hn1 hcs hG) hm hBl hbl
      have hS := exL_sl (n0 := w0.heap.size) hL' (by omega) (by simp; omega)
      have hlen : (xs ++ [x]).length = xs.length + 1 := by simp
      rw [hlen] at hS
      exact hok (xs ++ [x]) (i + 1) (by unfold nextRes; rw [if_neg (by rw [hc]; simp), if_pos hf]) w' _ (hk'.toMoved hw0 h0l hbl) hr' hS
    · intro hc hf g' cap' w w' hG hm
      exact hbad 4 (by unfold nextRes; rw [if_neg (by rw [hc]; simp), if_neg (by rw [hf]; simp)]) w' (((hk.grew hG hL.own hBl hbl).moved hm).toMoved hw0 h0l hbl)

theorem one_next (f d : Nat) (hd : d < 100) (hE : ExprReads f (d + 1)) (B : Nat) (l : Toks) (i : Nat) (W : World) (br bd : Nat) (g : Nat) (lb : Array Value) (eg : ∀ args w, (callFunc g args).run Tryz.prog w = .ok (.enter g args) w) (R : Int → World → Prop) (hr : RdAt B l i W)
    (cr : W.cell? ⟨br, 0, none⟩ = some (.pointer (some ⟨B, 0, none⟩))) (cd : W.cell? ⟨bd, 0, none⟩ = some (.int .i64 d))
    (hbad : ∀ e, pEx l f i = .bad e → ∀ w', Moved B W w' → R e w')
    (hok : ∀ x j, pEx l f i = .ok x j → ∀ w' v, Moved B W w' → RdAt B l j w' → ExIs (Fresh W.heap.size w') w' x v → Calls Tryz.prog g (#[v] ++ lb) w' (Ends R)) :
    Calls Tryz.prog 152 #[.func (.func g) #[] lb, .pointer (some ⟨br, 0, none⟩), .pointer (some ⟨bd, 0, none⟩)] W (Ends R) := by
  have HE := veil (hE B l i W g lb eg R hr hbad hok)
  have en : ((d + 1 : Nat) : Int) = (d : Int) + 1 := by omega
  rw [en] at HE
  have hd' : (d : Int) < 100 := by omega
  clear hbad hok hr eg hE en hd
  go_enter Tryz.func152, Tryz.ntmps152
  go_wp2_with fail
  refine HE.out.mono ?_
  rintro e w' ⟨y, rfl, hy⟩
  have HY := veil hy
  clear hy
  go_wp2_with fail
  go_ret
  exact ⟨_, rfl, HY.out⟩

theorem six_new (w : World) (o0 o1 o2 o3 o4 o5 : Obj) : ∃ W, ((((((w.alloc o0).alloc o1).alloc o2).alloc o3).alloc o4).alloc o5) = W ∧ W.heap.size = w.heap.size + 6 ∧ W.heap[w.heap.size]? = some o0 ∧ W.heap[w.heap.size + 1]? = some o1 ∧ W.heap[w.heap.size + 2]? = some o2 ∧
    W.heap[w.heap.size + 3]? = some o3 ∧ W.heap[w.heap.size + 4]? = some o4 ∧ W.heap[w.heap.size + 5]? = some o5 ∧ Below w.heap.size w W := by
  have n0 : (w.alloc o0).heap.size = w.heap.size + 1 := by simp
  have n1 : ((w.alloc o0).alloc o1).heap.size = w.heap.size + 2 := by simp
  have n2 : (((w.alloc o0).alloc o1).alloc o2).heap.size = w.heap.size + 3 := by simp
  have n3 : ((((w.alloc o0).alloc o1).alloc o2).alloc o3).heap.size = w.heap.size + 4 := by simp
  have n4 : (((((w.alloc o0).alloc o1).alloc o2).alloc o3).alloc o4).heap.size = w.heap.size + 5 := by simp
  have a0 := heap_alloc_new w o0
  have a1 := heap_alloc_new (w.alloc o0) o1
  have a2 := heap_alloc_new ((w.alloc o0).alloc o1) o2
  have a3 := heap_alloc_new (((w.alloc o0).alloc o1).alloc o2) o3
  have a4 := heap_alloc_new ((((w.alloc o0).alloc o1).alloc o2).alloc o3) o4
  have a5 := heap_alloc_new (((((w.alloc o0).alloc o1).alloc o2).alloc o3).alloc o4) o5
  rw [n0] at a1
  rw [n1] at a2
  rw [n2] at a3
  rw [n3] at a4
  rw [n4] at a5
  refine ⟨_, rfl, by simp, ?_, ?_, ?_, ?_, ?_, a5, ?_⟩
  · rw [heap_alloc_old _ _ (by omega), heap_alloc_old _ _ (by omega), heap_alloc_old _ _ (by omega), heap_alloc_old _ _ (by omega), heap_alloc_old _ _ (by omega)]; exact a0
  · rw [heap_alloc_old _ _ (by omega), heap_alloc_old _ _ (by omega), heap_alloc_old _ _ (by omega), heap_alloc_old _ _ (by omega)]; exact a1
  · rw [heap_alloc_old _ _ (by omega), heap_alloc_old _ _ (by omega), heap_alloc_old _ _ (by omega)]; exact a2
  · rw [heap_alloc_old _ _ (by omega), heap_alloc_old _ _ (by omega)]; exact a3
  · rw [heap_alloc_old _ _ (by omega)]; exact a4
  · exact ((((((Below.refl _ _).alloc (Nat.le_refl _) _).alloc (by omega) _).alloc (by omega) _).alloc (by omega) _).alloc (by omega) _).alloc (by omega) _

theorem box_cell {W : World} {c : Nat} {v : Value} {T : TypeId} (h : W.heap[c]? = some (.cells #[v] T (0, 0))) : W.cell? ⟨c, 0, none⟩ = some v := by rw [cell_of_row W c 0 _ _ _ h]; rfl

set_option maxHeartbeats 4000000 in
theorem listed_next (f d : Nat) (hd : d < 100) (hE : ExprReads f (d + 1)) (B : Nat) (l : Toks) (i : Nat) (fin : ByteArray) (w : World) (br bd : Nat) (g : Nat) (lb : Array Value) (eg : ∀ args w, (callFunc g args).run Tryz.prog w = .ok (.enter g args) w) (R : Int → World → Prop) (hr : RdAt B l i w)
    (cr : w.cell? ⟨br, 0, none⟩ = some (.pointer (some ⟨B, 0, none⟩))) (cd : w.cell? ⟨bd, 0, none⟩ = some (.int .i64 d)) (hbr : B < br) (hbd : B < bd)
    (hbad : ∀ e, pList (pEx l f) l fin.data.toList (l.length + 1) [] i = .bad e → ∀ w', Moved B w w' → R e w')
    (hok : ∀ xs j, pList (pEx l f) l fin.data.toList (l.length + 1) [] i = .ok xs j → ∀ w' v, Moved B w w' → RdAt B l j w' → SlAt (Fresh w.heap.size w') (ExAt (Fresh w.heap.size w') w') 5 xs v → Calls Tryz.prog g (#[v] ++ lb) w' (Ends R)) :
    Calls Tryz.prog 153 #[.pointer (some ⟨B, 0, none⟩), .string fin, .func (.func 152) #[] #[.pointer (some ⟨br, 0, none⟩), .pointer (some ⟨bd, 0, none⟩)], .func (.func g) #[] lb] w (Ends R) := by
  have hlt := rd_lt hr
  have hbrw : br < w.heap.size := World.block_lt_of_cell? w _ cr
  have hbdw : bd < w.heap.size := World.block_lt_of_cell? w _ cd
  obtain ⟨Wb, hWb, hsz, p0, p1, p2, p3, p4, p5, hbel⟩ := six_new w (.cells #[.pointer (some ⟨B, 0, none⟩)] 76) (.cells #[.string fin] 9) (.cells #[.func (.func 152) #[] #[.pointer (some ⟨br, 0, none⟩), .pointer (some ⟨bd, 0, none⟩)]] 170) (.cells #[.func (.func g) #[] lb] 162) (.cells #[.slice none 0 0] 50)
    (.cells #[.func (.func 162) #[] #[.pointer (some ⟨w.heap.size + 4, 0, none⟩), .pointer (some ⟨w.heap.size, 0, none⟩), .pointer (some ⟨w.heap.size + 2, 0, none⟩), .pointer (some ⟨w.heap.size + 5, 0, none⟩), .pointer (some ⟨w.heap.size + 1, 0, none⟩), .pointer (some ⟨w.heap.size + 3, 0, none⟩)]] 128)
  have hm : Moved B w Wb := Moved.of_below hbel (by omega)
  have hr0 := rd_below hr hbel
  have cr0 : Wb.cell? ⟨br, 0, none⟩ = some (.pointer (some ⟨B, 0, none⟩)) := (hbel.cell (p := ⟨br, 0, none⟩) hbrw).trans cr
  have cd0 : Wb.cell? ⟨bd, 0, none⟩ = some (.int .i64 d) := (hbel.cell (p := ⟨bd, 0, none⟩) hbdw).trans cd
  have xbr : LBox B (w.heap.size + 4) (w.heap.size + 6) br (.pointer (some ⟨B, 0, none⟩)) Wb := ⟨cr0, hbr, by omega, by omega⟩
  have xbd : LBox B (w.heap.size + 4) (w.heap.size + 6) bd (.int .i64 d) Wb := ⟨cd0, hbd, by omega, by omega⟩
  have hK0 : Kept B (w.heap.size + 4) (w.heap.size + 6) Wb Wb := ⟨Below.refl _ _, fun _ _ _ _ => rfl, by omega⟩
  have hL0 : ListOf ExC 52 50 (w.heap.size + 6) (w.heap.size + 4) (w.heap.size + 6) [] none 0 [] Wb := ⟨p4, ⟨rfl, Or.inl ⟨rfl, rfl⟩⟩, fun g' h => (by cases h), fun j hj => absurd hj (by simp)⟩
  have cI := one_next f d hd hE B l i Wb br bd 162 #[.pointer (some ⟨w.heap.size + 4, 0, none⟩), .pointer (some ⟨w.heap.size, 0, none⟩), .pointer (some ⟨w.heap.size + 2, 0, none⟩), .pointer (some ⟨w.heap.size + 5, 0, none⟩), .pointer (some ⟨w.heap.size + 1, 0, none⟩), .pointer (some ⟨w.heap.size + 3, 0, none⟩)] (enters_of Tryz.func162 (by kernel_rfl) rfl) R hr0 cr0 cd0
    (fun e he w' hm' => hbad e (pList_bad he) w' (hm.trans hm'))
    (fun x j hx w' v hm' hr' hv => by
      refine next_go f B l fin w Wb (w.heap.size + 6) (w.heap.size + 4) w.heap.size (w.heap.size + 2) (w.heap.size + 5) (w.heap.size + 1) (w.heap.size + 3) 152 g #[.pointer (some ⟨br, 0, none⟩), .pointer (some ⟨bd, 0, none⟩)] lb (enters_of Tryz.func152 (by kernel_rfl) rfl) eg R hm (by omega) (by omega) (by omega)
        ⟨box_cell p0, by omega, by omega, by omega⟩ ⟨box_cell p2, by omega, by omega, by omega⟩ ⟨box_cell p5, by omega, by omega, by omega⟩ ⟨box_cell p1, by omega, by omega, by omega⟩ ⟨box_cell p3, by omega, by omega, by omega⟩
        (fun i' W hr1 hk1 g' lb' eg' hbad' hok' => one_next f d hd hE B l i' W br bd g' lb' eg' R hr1 (xbr.later hk1) (xbd.later hk1) hbad' hok')
        l.length j x v (w.heap.size + 6) [] none 0 [] w' (by omega) (by simp) hr' (hK0.moved hm') (Nat.le_refl _) (by have := hm'.below.size; omega) (exL_moved hL0 hm' (by omega) (by omega)) (by rw [hsz] at hv; exact hv) ?_ ?_
      · intro e he w'' hm''
        exact hbad e (by rw [pList_ok hx]; exact he) w'' hm''
      · intro zs j' hz w'' v' hm'' hr'' hv'
        exact hok zs j' (by rw [pList_ok hx]; exact hz) w'' v' hm'' hr'' hv')
  rw [← hWb] at cI
  have HCI := veil cI
  have hef := makeFunc_run
  have e1 := enters_of (P := Tryz.prog) Tryz.func152 (by kernel_rfl) rfl
  clear cI hbad hok hr hWb hsz p0 p1 p2 p3 p4 p5 hbel hm hr0 cr0 cd0 xbr xbd hK0 hL0 cr cd hE eg hbrw hbdw
  go_enter Tryz.func153, Tryz.ntmps153
  go_wp2_with fail
  refine HCI.out.mono ?_
  rintro e w' ⟨y, rfl, hy⟩
  have HY := veil hy
  clear hy
  go_wp2_with fail
  go_ret
  exact ⟨_, rfl, HY.out⟩

set_option maxHeartbeats 2000000 in
theorem args_next (f d : Nat) (hd : d < 100) (hE : ExprReads f (d + 1)) : ArgsReads f d := by
  intro B l i fin w g lb eg R hr hbad hok
  have hlt := rd_lt hr
  have hal : Below w.heap.size w ((w.alloc (.cells #[.pointer (some ⟨B, 0, none⟩)] 76)).alloc (.cells #[.int .i64 d] 3)) := ((Below.refl _ _).alloc (Nat.le_refl _) _).alloc (by simp) _
  have hm : Moved B w ((w.alloc (.cells #[.pointer (some ⟨B, 0, none⟩)] 76)).alloc (.cells #[.int .i64 d] 3)) := Moved.of_below hal (by omega)
  have hsz : ((w.alloc (.cells #[.pointer (some ⟨B, 0, none⟩)] 76)).alloc (.cells #[.int .i64 d] 3)).heap.size = w.heap.size + 2 := by simp
  have cI := listed_next f d hd hE B l i fin ((w.alloc (.cells #[.pointer (some ⟨B, 0, none⟩)] 76)).alloc (.cells #[.int .i64 d] 3)) w.heap.size (w.heap.size + 1) g lb eg R (rd_below hr hal)
    ((World.cell?_alloc_old _ _ _ (by simp)).trans (World.cell?_alloc_at _ _ _ _ rfl)) (World.cell?_alloc_at _ _ _ _ (by simp)) (by omega) (by omega)
    (fun e he w' hm' => hbad e he w' (hm.trans hm'))
    (fun xs j hx w' v hm' hr' hv => hok xs j hx w' v (hm.trans hm') hr' (exSl_keep ⟨fun _ _ => rfl, fun b hb => ⟨by have := hb.1; omega, hb.2⟩⟩ hv))
  have HCI := veil cI
  have hef := makeFunc_run
  clear cI hbad hok hr hal hm hsz hE eg
  go_enter Tryz.func143, Tryz.ntmps143
  go_wp2_with fail
  refine HCI.out.mono ?_
  rintro e w' ⟨y, rfl, hy⟩
  have HY := veil hy
  clear hy
  go_wp2_with fail
  go_ret
  exact ⟨_, rfl, HY.out⟩

/-- expressions are read as 'pEx' says. -/
theorem expr_next : ∀ (f d : Nat), d + f = 41 → ExprReads f d
  | 0, d, h => expr_zero d (by omega) (by omega)
  | f + 1, d, h => by
    have hE := expr_next f (d + 1) (by omega)
    exact expr_succ f d (by omega) (operand_next f d (by omega) hE (head_next f d (by omega) hE (args_next f d (by omega) hE) (call_next f d (args_next f d (by omega) hE))))

end Go.Proofs.YtpamadnckijfkabGreatDoor
