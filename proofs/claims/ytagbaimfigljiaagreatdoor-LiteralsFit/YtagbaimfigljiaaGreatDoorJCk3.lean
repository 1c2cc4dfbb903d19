import Derived.Test.YtagbaimfigljiaaGreatDoorJCk2
import Derived.Test.YtagbaimfigljiaaGreatDoorJCk0
namespace Go.Proofs.YtagbaimfigljiaaGreatDoor
open Go.RowKit
set_option maxRecDepth 100000

/-- the reader's expr reads as 'pEx' says, from that depth on. -/
def ExprReads (f d : Nat) : Prop := ∀ (B : Nat) (l : Toks) (i : Nat) (w : World) (g : Nat) (lb : Array Value), (∀ args w, (callFunc g args).run Tryz.prog w = .ok (.enter g args) w) → ∀ (R : Int → World → Prop), RdAt B l i w →
    (∀ e, pEx l f i = .bad e → ∀ w', Moved B w w' → R e w') →
    (∀ x j, pEx l f i = .ok x j → ∀ w' v, Moved B w w' → RdAt B l j w' → ExIs (Fresh w.heap.size w') w' x v → Calls Tryz.prog g (#[v] ++ lb) w' (Ends R)) →
    Calls Tryz.prog 202 #[.pointer (some ⟨B, 0, none⟩), .int .i64 d, .func (.func g) #[] lb] w (Ends R)

theorem ex_wider {n n' : Nat} {w : World} {x : Ex} {v : Value} (hn : n ≤ n') (h : ExIs (Fresh n' w) w x v) : ExIs (Fresh n w) w x v := h.keep ⟨fun _ _ => rfl, fun _ hb => ⟨Nat.le_trans hn hb.1, hb.2⟩⟩

/-- two expressions side by side in a new block: the args of a sum, of a place. -/
theorem ex_two {n : Nat} {W : World} {x y : Ex} {k1 n1 k2 n2 : Int} {f1 s1 f2 s2 : ByteArray} {v1 v2 : Value} (hn : n ≤ W.heap.size)
    (hx : ExCs (Fresh n (W.alloc (.cells #[.int .i64 k1, .int .i64 n1, .string f1, .string s1, v1, .int .i64 k2, .int .i64 n2, .string f2, .string s2, v2] 87))) (W.alloc (.cells #[.int .i64 k1, .int .i64 n1, .string f1, .string s1, v1, .int .i64 k2, .int .i64 n2, .string f2, .string s2, v2] 87)) x k1 n1 f1 s1 v1)
    (hy : ExCs (Fresh n (W.alloc (.cells #[.int .i64 k1, .int .i64 n1, .string f1, .string s1, v1, .int .i64 k2, .int .i64 n2, .string f2, .string s2, v2] 87))) (W.alloc (.cells #[.int .i64 k1, .int .i64 n1, .string f1, .string s1, v1, .int .i64 k2, .int .i64 n2, .string f2, .string s2, v2] 87)) y k2 n2 f2 s2 v2) (k : Int) :
    ExIs (Fresh n (W.alloc (.cells #[.int .i64 k1, .int .i64 n1, .string f1, .string s1, v1, .int .i64 k2, .int .i64 n2, .string f2, .string s2, v2] 87))) (W.alloc (.cells #[.int .i64 k1, .int .i64 n1, .string f1, .string s1, v1, .int .i64 k2, .int .i64 n2, .string f2, .string s2, v2] 87)) (.mk k 0 emptyText emptyText [x, y])
      (.agg #[.int .i64 k, .int .i64 0, .string ⟨#[]⟩, .string ⟨#[]⟩, .slice (some ⟨W.heap.size, 0, none⟩) 2 2]) := by
  refine ⟨k, 0, _, _, _, rfl, [x, y], rfl, empty_le, empty_le, some ⟨W.heap.size, 0, none⟩, 2, rfl, ⟨by simp [maxLen], by simp⟩, Or.inr ⟨W.heap.size, 0, rfl, ⟨hn, by simp⟩, ?_, ?_, trivial⟩⟩
  · exact exAt_cells.2 ⟨k1, n1, f1, s1, v1, World.cell?_alloc_at _ _ _ _ rfl, World.cell?_alloc_at _ _ _ _ rfl, World.cell?_alloc_at _ _ _ _ rfl, World.cell?_alloc_at _ _ _ _ rfl, World.cell?_alloc_at _ _ _ _ rfl, hx⟩
  · exact exAt_cells.2 ⟨k2, n2, f2, s2, v2, World.cell?_alloc_at _ _ _ _ rfl, World.cell?_alloc_at _ _ _ _ rfl, World.cell?_alloc_at _ _ _ _ rfl, World.cell?_alloc_at _ _ _ _ rfl, World.cell?_alloc_at _ _ _ _ rfl, hy⟩

/-- the boxes that the closures of operand and expr hold: the reader, the way back, the depth, the closure itself. -/
structure Boxes (B d g : Nat) (lb : Array Value) (me br bk bd bp : Nat) (W : World) : Prop where
  r : W.cell? ⟨br, 0, none⟩ = some (.pointer (some ⟨B, 0, none⟩))
  k : W.cell? ⟨bk, 0, none⟩ = some (.func (.func g) #[] lb)
  d : W.cell? ⟨bd, 0, none⟩ = some (.int .i64 d)
  p : W.cell? ⟨bp, 0, none⟩ = some (.func (.func me) #[] #[.pointer (some ⟨br, 0, none⟩), .pointer (some ⟨bk, 0, none⟩), .pointer (some ⟨bd, 0, none⟩), .pointer (some ⟨bp, 0, none⟩)])
  hr : B < br
  hk : B < bk
  hd : B < bd
  hp : B < bp

theorem Boxes.keep {B d g : Nat} {lb : Array Value} {me br bk bd bp : Nat} {W W' : World} (h : Boxes B d g lb me br bk bd bp W) (hm : Moved B W W') : Boxes B d g lb me br bk bd bp W' :=
  ⟨(hm.cell h.hr (World.block_lt_of_cell? W _ h.r) 0).trans h.r, (hm.cell h.hk (World.block_lt_of_cell? W _ h.k) 0).trans h.k, (hm.cell h.hd (World.block_lt_of_cell? W _ h.d) 0).trans h.d, (hm.cell h.hp (World.block_lt_of_cell? W _ h.p) 0).trans h.p, h.hr, h.hk, h.hd, h.hp⟩

set_option maxHeartbeats 2000000 in
/-- behind a place in brackets: the way back of 'operand'; 'self': the closure that goes on behind it. -/
theorem place_back (B : Nat) (l : Toks) (n0 j br bp bx self : Nat) (caps : Array Value) (es : ∀ args w, (callFunc self args).run Tryz.prog w = .ok (.enter self args) w) (R : Int → World → Prop) (x p : Ex) (W : World) (k nu ke ne : Int) (fo s fe se : ByteArray) (va1 ve1 : Option Addr) (va2 va3 ve2 ve3 : Nat)
    (hBn : B < n0) (hnW : n0 ≤ W.heap.size) (hr : RdAt B l j W) (kr : W.cell? ⟨br, 0, none⟩ = some (.pointer (some ⟨B, 0, none⟩))) (kp : W.cell? ⟨bp, 0, none⟩ = some (.func (.func self) #[] caps)) (_hbr : B < br) (hbp : B < bp) (hbx : B < bx)
    (b0 : W.cell? ⟨bx, 0, none⟩ = some (.int .i64 k)) (b1 : W.cell? ⟨bx, 1, none⟩ = some (.int .i64 nu)) (b2 : W.cell? ⟨bx, 2, none⟩ = some (.string fo)) (b3 : W.cell? ⟨bx, 3, none⟩ = some (.string s)) (b4 : W.cell? ⟨bx, 4, none⟩ = some (.slice va1 va2 va3))
    (hx : ExCs (Fresh n0 W) W x k nu fo s (.slice va1 va2 va3)) (hp : ExCs (Fresh n0 W) W p ke ne fe se (.slice ve1 ve2 ve3))
    (hbad : sgn l j [93] = false → ∀ w', Moved B W w' → R 4 w')
    (hok : sgn l j [93] = true → ∀ w' v, Moved B W w' → RdAt B l (j + 1) w' → ExIs (Fresh n0 w') w' (exAt x p) v → Calls Tryz.prog self (#[v] ++ caps) w' (Ends R)) :
    Calls Tryz.prog 315 #[.agg #[.int .i64 ke, .int .i64 ne, .string fe, .string se, .slice ve1 ve2 ve3], .pointer (some ⟨br, 0, none⟩), .pointer (some ⟨bp, 0, none⟩), .pointer (some ⟨bx, 0, none⟩)] W (Ends R) := by
  have hlt := rd_lt hr
  have hbrW := World.block_lt_of_cell? W _ kr
  have hbpW := World.block_lt_of_cell? W _ kp
  have hbxW : bx < W.heap.size := World.block_lt_of_cell? W _ b0
  have hal : Below W.heap.size W (W.alloc (.cells #[.int .i64 ke, .int .i64 ne, .string fe, .string se, .slice ve1 ve2 ve3] 87)) := (Below.refl _ _).alloc (Nat.le_refl _) _
  have HM0 : Hid (Moved B W (W.alloc (.cells #[.int .i64 ke, .int .i64 ne, .string fe, .string se, .slice ve1 ve2 ve3] 87))) := Moved.of_below hal (by omega)
  have HR0 := veil (rd_below hr hal)
  have HBad := veil hbad
  have HOk := veil hok
  have HX := veil hx
  have HP := veil hp
  have hbrW' : br < W.heap.size := hbrW
  clear hbad hok hx hp hr hal
  go_enter Tryz.func315, Tryz.ntmps315
  go_wp2_with fail
  refine (sign_next B l j ⟨#[93]⟩ _ HR0.out).mono ?_
  rintro e w1 ⟨rfl, q1, q2⟩
  have hm1 := HM0.out.trans q2
  have hsz1 : W.heap.size + 1 ≤ w1.heap.size := by have := q2.below.size; simpa using this
  have p0 : w1.cell? ⟨W.heap.size, 0, none⟩ = some (.int .i64 ke) := (q2.cell (by omega) (by simp) 0).trans (World.cell?_alloc_at _ _ _ _ rfl)
  have p1 : w1.cell? ⟨W.heap.size, 1, none⟩ = some (.int .i64 ne) := (q2.cell (by omega) (by simp) 1).trans (World.cell?_alloc_at _ _ _ _ rfl)
  have p2 : w1.cell? ⟨W.heap.size, 2, none⟩ = some (.string fe) := (q2.cell (by omega) (by simp) 2).trans (World.cell?_alloc_at _ _ _ _ rfl)
  have p3 : w1.cell? ⟨W.heap.size, 3, none⟩ = some (.string se) := (q2.cell (by omega) (by simp) 3).trans (World.cell?_alloc_at _ _ _ _ rfl)
  have p4 : w1.cell? ⟨W.heap.size, 4, none⟩ = some (.slice ve1 ve2 ve3) := (q2.cell (by omega) (by simp) 4).trans (World.cell?_alloc_at _ _ _ _ rfl)
  have x0 := (hm1.cell hbx hbxW 0).trans b0
  have x1 := (hm1.cell hbx hbxW 1).trans b1
  have x2 := (hm1.cell hbx hbxW 2).trans b2
  have x3 := (hm1.cell hbx hbxW 3).trans b3
  have x4 := (hm1.cell hbx hbxW 4).trans b4
  have kp1 := (hm1.cell hbp hbpW 0).trans kp
  cases hs : sgn l j [93]
  · have hs' : sgn l j (ByteArray.mk #[93]).data.toList = false := hs
    have HB := veil (HBad.out hs w1 hm1)
    try rw [hs']
    clear q1 q2 hm1 HOk HBad
    go_wp2_with fail
    go_ret
    exact ⟨_, rfl, HB.out⟩
  · have hs' : sgn l j (ByteArray.mk #[93]).data.toList = true := hs
    rw [hs'] at q1
    have q1' : RdAt B l (j + 1) w1 := q1
    have hal : Below w1.heap.size w1 (w1.alloc (.cells #[.int .i64 k, .int .i64 nu, .string fo, .string s, .slice va1 va2 va3, .int .i64 ke, .int .i64 ne, .string fe, .string se, .slice ve1 ve2 ve3] 87)) := (Below.refl _ _).alloc (Nat.le_refl _) _
    have hm2 : Moved B W (w1.alloc (.cells #[.int .i64 k, .int .i64 nu, .string fo, .string s, .slice va1 va2 va3, .int .i64 ke, .int .i64 ne, .string fe, .string se, .slice ve1 ve2 ve3] 87)) := hm1.trans (Moved.of_below hal (by omega))
    have HK := veil (HOk.out hs _ _ hm2 (rd_below q1' hal) (ex_two (by omega) (HX.out.keep (fresh_keeps hBn hm2)) (HP.out.keep (fresh_keeps hBn hm2)) 7))
    try rw [hs']
    clear q1 q2 hm1 hm2 q1' hal HOk HBad HX HP
    go_wp2_with fail
    refine HK.out.mono ?_
    rintro e w' ⟨y, rfl, hy⟩
    have HY := veil hy
    clear hy
    go_wp2_with fail
    go_ret
    exact ⟨_, rfl, HY.out⟩

set_option maxHeartbeats 4000000 in
theorem places_next (f d : Nat) (hd1 : d < 100) (hE : ExprReads f (d + 1)) (B : Nat) (l : Toks) (n0 : Nat) (g : Nat) (lb : Array Value) (eg : ∀ args w, (callFunc g args).run Tryz.prog w = .ok (.enter g args) w) (R : Int → World → Prop) (br bk bd bp : Nat) (hBn : B < n0) :
    ∀ (n i : Nat) (x : Ex) (v : Value) (W : World), l.length - i < n → RdAt B l i W → ExIs (Fresh n0 W) W x v → Boxes B d g lb 314 br bk bd bp W → n0 ≤ W.heap.size →
    (∀ e, pPlaces (pEx l f) l n x i = .bad e → ∀ w', Moved B W w' → R e w') →
    (∀ y j, pPlaces (pEx l f) l n x i = .ok y j → ∀ w' v', Moved B W w' → RdAt B l j w' → ExIs (Fresh n0 w') w' y v' → Calls Tryz.prog g (#[v'] ++ lb) w' (Ends R)) →
    Calls Tryz.prog 314 #[v, .pointer (some ⟨br, 0, none⟩), .pointer (some ⟨bk, 0, none⟩), .pointer (some ⟨bd, 0, none⟩), .pointer (some ⟨bp, 0, none⟩)] W (Ends R) := by
  intro n
  induction n with
  | zero => intro i x v W hn; omega
  | succ n ih =>
    intro i x v W hn hr hx hbx hnW hbad hok
    obtain ⟨k, nu, fo, s, va, rfl, hcs⟩ := hx
    obtain ⟨va1, va2, va3, rfl⟩ := hcs.slice
    have HIH := veil ih
    have HEg := veil eg
    have HE := veil hE
    have HBad := veil hbad
    have HOk := veil hok
    have HC := veil hcs
    have HBx := veil hbx
    have hlt := rd_lt hr
    have hal : Below W.heap.size W (W.alloc (.cells #[.int .i64 k, .int .i64 nu, .string fo, .string s, .slice va1 va2 va3] 87)) := (Below.refl _ _).alloc (Nat.le_refl _) _
    have HM0 : Hid (Moved B W (W.alloc (.cells #[.int .i64 k, .int .i64 nu, .string fo, .string s, .slice va1 va2 va3] 87))) := Moved.of_below hal (by omega)
    have HR0 := veil (rd_below hr hal)
    have HP : Hid (pPlaces (pEx l f) l (n + 1) x i = if sgn l i [91] = true then (match pEx l f (i + 1) with
      | .bad e => .bad e
      | .ok p j => if sgn l j [93] = true then pPlaces (pEx l f) l n (exAt x p) (j + 1) else .bad 4) else .ok x i) := by show _ = _; rw [pPlaces]; rfl
    have hB0 := hbx.keep HM0.out
    have c1 := hB0.r
    have hef := makeFunc_run
    have HB0 := veil hB0
    clear hbad hok hr ih hal eg hcs hbx hE hB0
    go_enter Tryz.func314, Tryz.ntmps314
    go_wp2_with fail
    refine (sign_next B l i ⟨#[91]⟩ _ HR0.out).mono ?_
    rintro e w1 ⟨rfl, q1, q2⟩
    have HN1 := veil q2
    have HM1 := veil (HM0.out.trans q2)
    have hsz1 : W.heap.size + 1 ≤ w1.heap.size := by have := q2.below.size; simpa using this
    have hB1 := HB0.out.keep q2
    have e0 : w1.cell? ⟨W.heap.size, 0, none⟩ = some (.int .i64 k) := (q2.cell (by omega) (by simp) 0).trans (World.cell?_alloc_at _ _ _ _ rfl)
    have e1 : w1.cell? ⟨W.heap.size, 1, none⟩ = some (.int .i64 nu) := (q2.cell (by omega) (by simp) 1).trans (World.cell?_alloc_at _ _ _ _ rfl)
    have e2 : w1.cell? ⟨W.heap.size, 2, none⟩ = some (.string fo) := (q2.cell (by omega) (by simp) 2).trans (World.cell?_alloc_at _ _ _ _ rfl)
    have e3 : w1.cell? ⟨W.heap.size, 3, none⟩ = some (.string s) := (q2.cell (by omega) (by simp) 3).trans (World.cell?_alloc_at _ _ _ _ rfl)
    have e4 : w1.cell? ⟨W.heap.size, 4, none⟩ = some (.slice va1 va2 va3) := (q2.cell (by omega) (by simp) 4).trans (World.cell?_alloc_at _ _ _ _ rfl)
    have k1 := hB1.r
    have k2 := hB1.k
    have k3 := hB1.d
    have HB1 := veil hB1
    clear hB1 c1
    cases hs : sgn l i [91]
    · have hs' : sgn l i (ByteArray.mk #[91]).data.toList = false := hs
      rw [hs'] at q1
      rw [if_neg (by rw [hs]; simp)] at HP
      have HK := veil (HOk.out _ _ HP.out w1 _ HM1.out q1 ⟨_, _, _, _, _, rfl, HC.out.keep (fresh_keeps hBn HM1.out)⟩)
      have eg := HEg.out
      try rw [hs']
      clear q1 q2 HBad HOk
      go_wp2_with fail
      refine HK.out.mono ?_
      rintro e w' ⟨y, rfl, hy⟩
      have HY := veil hy
      clear hy
      go_wp2_with fail
      go_ret
      exact ⟨_, rfl, HY.out⟩
    · have hs' : sgn l i (ByteArray.mk #[91]).data.toList = true := hs
      have hil := sgn_lt hs
      rw [hs'] at q1
      rw [if_pos hs] at HP
      have HR1 : Hid (RdAt B l (i + 1) w1) := q1
      have en : ((d + 1 : Nat) : Int) = (d : Int) + 1 := by omega
      have cI := HE.out B l (i + 1) w1 315 #[.pointer (some ⟨br, 0, none⟩), .pointer (some ⟨bp, 0, none⟩), .pointer (some ⟨W.heap.size, 0, none⟩)] (enters_of Tryz.func315 (by kernel_rfl) rfl) R HR1.out
        (fun e he w' hm => HBad.out e (by rw [HP.out, he]) w' (HM1.out.trans hm))
        (fun p j hp W2 v hm hr2 hv => by
          have hadv := pEx_adv f _ _ _ hp
          have hm2 := HM1.out.trans hm
          have hB2 := HB1.out.keep hm
          have hsz2 := hm.below.size
          have b0 := (hm.cell (c := W.heap.size) (by omega) (by omega) 0).trans e0
          have b1 := (hm.cell (c := W.heap.size) (by omega) (by omega) 1).trans e1
          have b2 := (hm.cell (c := W.heap.size) (by omega) (by omega) 2).trans e2
          have b3 := (hm.cell (c := W.heap.size) (by omega) (by omega) 3).trans e3
          have b4 := (hm.cell (c := W.heap.size) (by omega) (by omega) 4).trans e4
          have hv2 := ex_wider (n := n0) (by omega) hv
          obtain ⟨ke, ne, fe, se, ve, rfl, hce⟩ := hv2
          obtain ⟨ve1, ve2, ve3, rfl⟩ := hce.slice
          have hcx := HC.out.keep (fresh_keeps hBn hm2)
          exact place_back B l n0 j br bp W.heap.size 314 #[.pointer (some ⟨br, 0, none⟩), .pointer (some ⟨bk, 0, none⟩), .pointer (some ⟨bd, 0, none⟩), .pointer (some ⟨bp, 0, none⟩)] (enters_of Tryz.func314 (by kernel_rfl) rfl) R x p W2 k nu ke ne fo s fe se va1 ve1 va2 va3 ve2 ve3 hBn (by omega) hr2 hB2.r hB2.p hB2.hr hB2.hp (by omega) b0 b1 b2 b3 b4 hcx hce
            (fun hs2 w' hm' => HBad.out 4 (by rw [HP.out, hp]; simp [hs2]) w' (hm2.trans hm'))
            (fun hs2 w' v' hm' hr' hv' => HIH.out (j + 1) (exAt x p) v' w' (by have := sgn_lt hs2; omega) hr' hv' (hB2.keep hm') (by have := hm'.below.size; omega)
              (fun e he w'' hm'' => HBad.out e (by rw [HP.out, hp]; simp [hs2, he]) w'' ((hm2.trans hm').trans hm''))
              (fun y j' hy w'' v'' hm'' hr'' hv'' => HOk.out y j' (by rw [HP.out, hp]; simp [hs2, hy]) w'' v'' ((hm2.trans hm').trans hm'') hr'' hv'')))
      rw [en] at cI
      have HCI := veil cI
      try rw [hs']
      clear q1 q2 HBad HOk cI
      go_wp2_with fail
      refine HCI.out.mono ?_
      rintro e w' ⟨y, rfl, hy⟩
      have HY := veil hy
      clear hy
      go_wp2_with fail
      go_ret
      exact ⟨_, rfl, HY.out⟩

end Go.Proofs.YtagbaimfigljiaaGreatDoor
namespace Go.Proofs.YtagbaimfigljiaaGreatDoor
open Go.RowKit
set_option maxRecDepth 100000

theorem heap_lt {W : World} {b : Nat} {o : Obj} (h : W.heap[b]? = some o) : b < W.heap.size := by
  rcases Nat.lt_or_ge b W.heap.size with h' | h'
  · exact h'
  · rw [Array.getElem?_eq_none h'] at h; cases h

/-- the blocks where the parts of a list's elements lie. -/
def Parts (base : Nat) (v : Value) (W : World) (b : Nat) : Prop := base ≤ b ∧ b < W.heap.size ∧ v.ownBlock ≠ some b

/-- since Wb nothing has turned below base but blocks B and bl. -/
structure Kept (B bl base : Nat) (Wb W : World) : Prop where
  below : Below B Wb W
  same : ∀ c, B < c → c < base → c ≠ bl → W.heap[c]? = Wb.heap[c]?
  room : base ≤ W.heap.size

theorem Kept.cell {B bl base : Nat} {Wb W : World} (h : Kept B bl base Wb W) {c : Nat} (h1 : B < c) (h2 : c < base) (h3 : c ≠ bl) (o : Nat) : W.cell? ⟨c, o, none⟩ = Wb.cell? ⟨c, o, none⟩ := World.cell?_of_block (h.same c h1 h2 h3)

theorem Kept.moved {B bl base : Nat} {Wb W W' : World} (h : Kept B bl base Wb W) (hm : Moved B W W') : Kept B bl base Wb W' :=
  ⟨h.below.trans hm.below, fun c h1 h2 h3 => (hm.above c h1 (Nat.lt_of_lt_of_le h2 h.room)).trans (h.same c h1 h2 h3), Nat.le_trans h.room hm.below.size⟩

theorem Grew.below {base bl : Nat} {T Tl : TypeId} {v v' : Value} {n n' : Nat} {ys ys' : List Value} {W W' : World} {B : Nat} (h : Grew base bl T Tl v v' n' ys' W W') (hown : W.ownsRow base T 5 v n ys) (hB : B ≤ bl) (hbl : bl < base) (hW : B ≤ W.heap.size) : Below B W W' :=
  ⟨h.os, h.tape, h.output, h.size, fun c hc => h.rest c (by omega) (by omega) (fun e => by have := ownsRow_in hown _ e.symm; omega)⟩

theorem Kept.grew {B bl base : Nat} {T Tl : TypeId} {v v' : Value} {n n' : Nat} {ys ys' : List Value} {Wb W W' : World} (h : Kept B bl base Wb W) (hg : Grew base bl T Tl v v' n' ys' W W') (hown : W.ownsRow base T 5 v n ys) (hB : B < bl) (hbl : bl < base) : Kept B bl base Wb W' :=
  ⟨h.below.trans (hg.below hown (by omega) hbl (by have := h.room; omega)), fun c h1 h2 h3 => (hg.rest c (by have := h.room; omega) h3 (fun e => by have := ownsRow_in hown _ e.symm; omega)).trans (h.same c h1 h2 h3), Nat.le_trans h.room hg.size⟩

/-- nothing older than the boxes has turned but block B. -/
theorem Kept.toMoved {B bl base : Nat} {w0 Wb W : World} (h : Kept B bl base Wb W) (hm : Moved B w0 Wb) (h1 : w0.heap.size ≤ bl) (h2 : bl < base) : Moved B w0 W :=
  ⟨hm.below.trans h.below, fun c hc hlt => (h.same c hc (by omega) (by omega)).trans (hm.above c hc hlt)⟩

theorem rd_grew {base bl : Nat} {T Tl : TypeId} {v v' : Value} {n n' : Nat} {ys ys' : List Value} {W W' : World} {B : Nat} {l : Toks} {i : Nat} (hr : RdAt B l i W) (h : Grew base bl T Tl v v' n' ys' W W') (hown : W.ownsRow base T 5 v n ys) (hB : B < bl) (hbl : bl < base) : RdAt B l i W' := by
  have hlt := rd_lt hr
  have hb := h.below (B := B + 1) hown (by omega) hbl (by omega)
  obtain ⟨tv, h1, h2, h3⟩ := hr
  exact ⟨tv, (hb.block B (by omega)).trans h1, h2.keep (hb.mono (by omega)), h3⟩

theorem own_moved {B base : Nat} {T : TypeId} {c n : Nat} {v : Value} {ys : List Value} {W W' : World} (h : W.ownsRow base T c v n ys) (hm : Moved B W W') (hB : B < base) : W'.ownsRow base T c v n ys := by
  refine ⟨h.1, h.2.imp_right ?_⟩
  rintro ⟨g, cap, cur, rfl, hb, hg, hr⟩
  exact ⟨g, cap, cur, rfl, hb, (hm.above g (by omega) (heap_lt hg)).trans hg, hr⟩

theorem ownsRow_form' {w : World} {base size n : Nat} {e : TypeId} {v : Value} {xs : List Value} (h : w.ownsRow base e size v n xs) (hn : 0 < n) : ∃ g cap, v = .slice (some ⟨g, 0, none⟩) n cap := by
  rcases h.2 with ⟨_, h2⟩ | ⟨g, cap, _, h1, _⟩
  · omega
  · exact ⟨g, cap, h1⟩

section
variable {α : Type} (C : (Nat → Prop) → World → α → List Value → Prop) (T Tl : TypeId)

/-- the list in box bl holds xs; its row is older than block n1. -/
structure ListOf (base bl n1 : Nat) (xs : List α) (la : Option Addr) (cap : Nat) (ys : List Value) (W : World) : Prop where
  box : W.heap[bl]? = some (.cells #[.slice la xs.length cap] Tl (0, 0))
  own : W.ownsRow base T 5 (.slice la xs.length cap) xs.length ys
  old : ∀ g, (Value.slice la xs.length cap).ownBlock = some g → g < n1
  items : ∀ j (hj : j < xs.length), ∃ cs, cs.length = 5 ∧ (∀ t, t < 5 → ys[j * 5 + t]? = cs[t]?) ∧ C (Parts base (.slice la xs.length cap) W) W xs[j] cs

variable {C T Tl}

theorem ListOf.moved (hC : ∀ {S S' : Nat → Prop} {W W' : World} {x : α} {cs : List Value}, Keeps S S' W W' → C S W x cs → C S' W' x cs) {B base bl n1 : Nat} {xs : List α} {la : Option Addr} {cap : Nat} {ys : List Value} {W W' : World}
    (h : ListOf C T Tl base bl n1 xs la cap ys W) (hm : Moved B W W') (hB : B < bl) (hbl : bl < base) : ListOf C T Tl base bl n1 xs la cap ys W' := by
  refine ⟨(hm.above bl hB (heap_lt h.box)).trans h.box, own_moved h.own hm (by omega), h.old, fun j hj => ?_⟩
  obtain ⟨cs, h1, h2, h3⟩ := h.items j hj
  refine ⟨cs, h1, h2, hC ⟨fun b hb => hm.above b (by have := hb.1; omega) hb.2.1, fun b hb => ⟨hb.1, Nat.lt_of_lt_of_le hb.2.1 hm.below.size, hb.2.2⟩⟩ h3⟩

theorem ListOf.push (hC : ∀ {S S' : Nat → Prop} {W W' : World} {x : α} {cs : List Value}, Keeps S S' W W' → C S W x cs → C S' W' x cs) {base bl n1 : Nat} {xs : List α} {x : α} {la : Option Addr} {cap g cap' : Nat} {ys cs : List Value} {W W' : World}
    (h : ListOf C T Tl base bl n1 xs la cap ys W) (hbl : bl < base) (hn1 : base ≤ n1) (hcs : cs.length = 5) (hx : C (Fresh n1 W) W x cs)
    (hg : Grew base bl T Tl (.slice la xs.length cap) (.slice (some ⟨g, 0, none⟩) (xs.length + 1) cap') (xs.length + 1) (ys ++ cs) W W') : ListOf C T Tl base bl W'.heap.size (xs ++ [x]) (some ⟨g, 0, none⟩) cap' (ys ++ cs) W' := by
  have e : (xs ++ [x]).length = xs.length + 1 := by simp
  have hyl : ys.length = xs.length * 5 := h.own.1
  have hk : Keeps (Parts base (.slice la xs.length cap) W) (Parts base (.slice (some ⟨g, 0, none⟩) (xs.length + 1) cap') W') W W' :=
    ⟨fun b hb => hg.rest b hb.2.1 (by have := hb.1; omega) (fun e => hb.2.2 e.symm), fun b hb => ⟨hb.1, Nat.lt_of_lt_of_le hb.2.1 hg.size, fun e => by
      rcases hg.row b e with h1 | h1
      · exact hb.2.2 h1
      · have := hb.2.1; omega⟩⟩
  refine ⟨by rw [e]; exact hg.box, by rw [e]; exact hg.own, ?_, ?_⟩
  · intro g' hg'
    rw [e] at hg'
    exact (ownsRow_in hg.own g' hg').2
  · intro j hj
    rw [e]
    by_cases hjx : j < xs.length
    · obtain ⟨c, h1, h2, h3⟩ := h.items j hjx
      refine ⟨c, h1, fun t ht => ?_, ?_⟩
      · rw [List.getElem?_append_left (by omega)]
        exact h2 t ht
      · rw [List.getElem_append_left hjx]
        exact hC hk h3
    · have hje : j = xs.length := by omega
      subst hje
      refine ⟨cs, hcs, fun t _ => ?_, ?_⟩
      · rw [List.getElem?_append_right (by omega), hyl]
        congr 1
        omega
      · rw [List.getElem_append_right (Nat.le_refl _)]
        simp only [Nat.sub_self, List.getElem_cons_zero]
        exact hC hk (hC ⟨fun _ _ => rfl, fun b hb => ⟨by have := hb.1; omega, hb.2, fun e => by have := h.old b e; have := hb.1; omega⟩⟩ hx)

theorem ListOf.toSl {P : (Nat → Prop) → World → α → Nat → Nat → Prop} (hC : ∀ {S S' : Nat → Prop} {W W' : World} {x : α} {cs : List Value}, Keeps S S' W W' → C S W x cs → C S' W' x cs)
    (hP : ∀ {S : Nat → Prop} {W : World} {x : α} {cs : List Value} {b o : Nat}, cs.length = 5 → C S W x cs → (∀ t u, cs[t]? = some u → W.cell? ⟨b, o + t, none⟩ = some u) → P S W x b o) {base bl n1 n0 : Nat} {xs : List α} {la : Option Addr} {cap : Nat} {ys : List Value} {W : World}
    (h : ListOf C T Tl base bl n1 xs la cap ys W) (hn0 : n0 ≤ base) (hmax : xs.length ≤ maxLen) : SlAt (Fresh n0 W) (P (Fresh n0 W) W) 5 xs (.slice la xs.length cap) := by
  refine ⟨la, cap, rfl, ⟨hmax, ?_⟩, ?_⟩
  · rcases h.own.2 with ⟨h1, h2⟩ | ⟨g, cap', cur, h1, _, _, h3, _⟩
    · omega
    · cases h1; exact h3
  · rcases Nat.eq_zero_or_pos xs.length with h0 | h0
    · exact Or.inl h0
    · right
      obtain ⟨g, cap', hv⟩ := ownsRow_form' h.own h0
      cases hv
      have hin := ownsRow_in h.own g rfl
      refine ⟨g, 0, rfl, ⟨by omega, hin.2⟩, RowAt.mk fun j hj => ?_⟩
      obtain ⟨cs, h1, h2, h3⟩ := h.items j hj
      refine hP h1 (hC ⟨fun _ _ => rfl, fun b hb => ⟨by have := hb.1; omega, hb.2.1⟩⟩ h3) (fun t u hu => ?_)
      have ht : t < 5 := by rw [← h1]; exact (List.getElem?_eq_some_iff.1 hu).1
      rw [Nat.zero_add]
      exact own_cell h.own _ _ ((h2 t ht).trans hu)

end

end Go.Proofs.YtagbaimfigljiaaGreatDoor
