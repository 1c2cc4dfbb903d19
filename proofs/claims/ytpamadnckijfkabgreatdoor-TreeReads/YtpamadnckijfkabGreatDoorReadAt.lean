/- What the reader's operand does behind something: it reads the places in brackets, each by the reading of expressions that is handed in, and hands all to the way back. -/
import Derived.Test.YtpamadnckijfkabGreatDoorReadTy
import Derived.Test.YtpamadnckijfkabGreatDoorReadAdv
namespace Go.Proofs.YtpamadnckijfkabGreatDoor
open Go.RowKit
set_option maxRecDepth 100000

/-- the reader's expr reads as 'pEx' says, from that depth on. -/
def ExprReads (f d : Nat) : Prop := ∀ (B : Nat) (l : Toks) (i : Nat) (w : World) (g : Nat) (lb : Array Value), (∀ args w, (callFunc g args).run Tryz.prog w = .ok (.enter g args) w) → ∀ (R : Int → World → Prop), RdAt B l i w →
    (∀ e, pEx l f i = .bad e → ∀ w', Moved B w w' → R e w') →
    (∀ x j, pEx l f i = .ok x j → ∀ w' v, Moved B w w' → RdAt B l j w' → ExIs (Fresh w.heap.size w') w' x v → Calls Tryz.prog g (#[v] ++ lb) w' (Ends R)) →
    Calls Tryz.prog 74 #[.pointer (some ⟨B, 0, none⟩), .int .i64 d, .func (.func g) #[] lb] w (Ends R)

theorem ex_wider {n n' : Nat} {w : World} {x : Ex} {v : Value} (hn : n ≤ n') (h : ExIs (Fresh n' w) w x v) : ExIs (Fresh n w) w x v := h.keep ⟨fun _ _ => rfl, fun _ hb => ⟨Nat.le_trans hn hb.1, hb.2⟩⟩

/-- two expressions side by side in a new block: the args of a sum, of a place. -/
theorem ex_two {n : Nat} {W : World} {x y : Ex} {k1 n1 k2 n2 : Int} {f1 s1 f2 s2 : ByteArray} {v1 v2 : Value} (hn : n ≤ W.heap.size)
    (hx : ExCs (Fresh n (W.alloc (.cells #[.int .i64 k1, .int .i64 n1, .string f1, .string s1, v1, .int .i64 k2, .int .i64 n2, .string f2, .string s2, v2] 52))) (W.alloc (.cells #[.int .i64 k1, .int .i64 n1, .string f1, .string s1, v1, .int .i64 k2, .int .i64 n2, .string f2, .string s2, v2] 52)) x k1 n1 f1 s1 v1)
    (hy : ExCs (Fresh n (W.alloc (.cells #[.int .i64 k1, .int .i64 n1, .string f1, .string s1, v1, .int .i64 k2, .int .i64 n2, .string f2, .string s2, v2] 52))) (W.alloc (.cells #[.int .i64 k1, .int .i64 n1, .string f1, .string s1, v1, .int .i64 k2, .int .i64 n2, .string f2, .string s2, v2] 52)) y k2 n2 f2 s2 v2) (k : Int) :
    ExIs (Fresh n (W.alloc (.cells #[.int .i64 k1, .int .i64 n1, .string f1, .string s1, v1, .int .i64 k2, .int .i64 n2, .string f2, .string s2, v2] 52))) (W.alloc (.cells #[.int .i64 k1, .int .i64 n1, .string f1, .string s1, v1, .int .i64 k2, .int .i64 n2, .string f2, .string s2, v2] 52)) (.mk k 0 emptyText emptyText [x, y])
      (.agg #[.int .i64 k, .int .i64 0, .string ⟨#[]⟩, .string ⟨#[]⟩, .slice (some ⟨W.heap.size, 0, none⟩) 2 2]) := by
  refine ⟨k, 0, _, _, _, rfl, [x, y], rfl, empty_le, empty_le, some ⟨W.heap.size, 0, none⟩, 2, rfl, ⟨by simp [maxLen], by simp⟩, Or.inr ⟨W.heap.size, 0, rfl, ⟨hn, by simp⟩, ?_, ?_, trivial⟩⟩
  · exact exAt_cells.2 ⟨k1, n1, f1, s1, v1, World.cell?_alloc_at _ _ _ _ rfl, World.cell?_alloc_at _ _ _ _ rfl, World.cell?_alloc_at _ _ _ _ rfl, World.cell?_alloc_at _ _ _ _ rfl, World.cell?_alloc_at _ _ _ _ rfl, hx⟩
  · exact exAt_cells.2 ⟨k2, n2, f2, s2, v2, World.cell?_alloc_at _ _ _ _ rfl, World.cell?_alloc_at _ _ _ _ rfl, World.cell?_alloc_at _ _ _ _ rfl, World.cell?_alloc_at _ _ _ _ rfl, World.cell?_alloc_at _ _ _ _ rfl, hy⟩

/-- the boxes that the closures of operand and expr hold: the reader, the way back, the depth, the closure itself. -/
structure Boxes (B d g : Nat) (lb : Array Value) (me br bk bd bp : Nat) (W : World) : Prop where
  r : W.cell? ⟨br, 0, none⟩ = some (.pointer (some ⟨B, 0, none⟩))
  k : W.cell? ⟨bk, 0, none⟩ = some (.func (.func g) #[] lb)
  d : W.cell? ⟨bd, 0, none⟩ = some (.int .i64 d)
  p : W.cell? ⟨bp, 0, none⟩ = some (.func (.func me) #[] #[.pointer (some ⟨br, 0, none⟩), .pointer (some ⟨bk, 0, none⟩), .pointer (some ⟨bd, 0, none⟩), .pointer (some ⟨bp, 0, none⟩)])
  hr : B < br
  hk : B < bk
  hd : B < bd
  hp : B < bp

theorem Boxes.keep {B d g : Nat} {lb : Array Value} {me br bk bd bp : Nat} {W W' : World} (h : Boxes B d g lb me br bk bd bp W) (hm : Moved B W W') : Boxes B d g lb me br bk bd bp W' :=
  ⟨(hm.cell h.hr (World.block_lt_of_cell? W _ h.r) 0).trans h.r, (hm.cell h.hk (World.block_lt_of_cell? W _ h.k) 0).trans h.k, (hm.cell h.hd (World.block_lt_of_cell? W _ h.d) 0).trans h.d, (hm.cell h.hp (World.block_lt_of_cell? W _ h.p) 0).trans h.p, h.hr, h.hk, h.hd, h.hp⟩

set_option maxHeartbeats 2000000 in
/-- behind a place in brackets: the way back of 'operand'; 'self': the closure that goes on behind it. -/
theorem place_back (B : Nat) (l : Toks) (n0 j br bp bx self : Nat) (caps : Array Value) (es : ∀ args w, (callFunc self args).run Tryz.prog w = .ok (.enter self args) w) (R : Int → World → Prop) (x p : Ex) (W : World) (k nu ke ne : Int) (fo s fe se : ByteArray) (va1 ve1 : Option Addr) (va2 va3 ve2 ve3 : Nat)
    (hBn : B < n0) (hnW : n0 ≤ W.heap.size) (hr : RdAt B l j W) (kr : W.cell? ⟨br, 0, none⟩ = some (.pointer (some ⟨B, 0, none⟩))) (kp : W.cell? ⟨bp, 0, none⟩ = some (.func (.func self) #[] caps)) (_hbr : B < br) (hbp : B < bp) (hbx : B < bx)
    (b0 : W.cell? ⟨bx, 0, none⟩ = some (.int .i64 k)) (b1 : W.cell? ⟨bx, 1, none⟩ = some (.int .i64 nu)) (b2 : W.cell? ⟨bx, 2, none⟩ = some (.string fo)) (b3 : W.cell? ⟨bx, 3, none⟩ = some (.string s)) (b4 : W.cell? ⟨bx, 4, none⟩ = some (.slice va1 va2 va3))
    (hx : ExCs (Fresh n0 W) W x k nu fo s (.slice va1 va2 va3)) (hp : ExCs (Fresh n0 W) W p ke ne fe se (.slice ve1 ve2 ve3))
    (hbad : sgn l j [93] = false → ∀ w', Moved B W w' → R 4 w')
    (hok : sgn l j [93] = true → ∀ w' v, Moved B W w' → RdAt B l (j + 1) w' → ExIs (Fresh n0 w') w' (exAt x p) v → Calls Tryz.prog self (#[v] ++ caps) w' (Ends R)) :
    Calls Tryz.prog 135 #[.agg #[.int .i64 ke, .int .i64 ne, .string fe, .string se, .slice ve1 ve2 ve3], .pointer (some ⟨br, 0, none⟩), .pointer (some ⟨bp, 0, none⟩), .pointer (some ⟨bx, 0, none⟩)] W (Ends R) := by
  have hlt := rd_lt hr
  have hbrW := World.block_lt_of_cell? W _ kr
  have hbpW := World.block_lt_of_cell? W _ kp
  have hbxW : bx < W.heap.size := World.block_lt_of_cell? W _ b0
  have hal : Below W.heap.size W (W.alloc (.cells #[.int .i64 ke, .int .i64 ne, .string fe, .string se, .slice ve1 ve2 ve3] 52)) := (Below.refl _ _).alloc (Nat.le_refl _) _
  have HM0 : Hid (Moved B W (W.alloc (.cells #[.int .i64 ke, .int .i64 ne, .string fe, .string se, .slice ve1 ve2 ve3] 52))) := Moved.of_below hal (by omega)
  have HR0 := veil (rd_below hr hal)
  have HBad := veil hbad
  have HOk := veil hok
  have HX := veil hx
  have HP := veil hp
  have hbrW' : br < W.heap.size := hbrW
  clear hbad hok hx hp hr hal
  go_enter Tryz.func135, Tryz.ntmps135
  go_wp2_with fail
  refine (sign_next B l j ⟨#[93]⟩ _ HR0.out).mono ?_
  rintro e w1 ⟨rfl, q1, q2⟩
  have hm1 := HM0.out.trans q2
  have hsz1 : W.heap.size + 1 ≤ w1.heap.size := by have := q2.below.size; simpa using this
  have p0 : w1.cell? ⟨W.heap.size, 0, none⟩ = some (.int .i64 ke) := (q2.cell (by omega) (by simp) 0).trans (World.cell?_alloc_at _ _ _ _ rfl)
  have p1 : w1.cell? ⟨W.heap.size, 1, none⟩ = some (.int .i64 ne) := (q2.cell (by omega) (by simp) 1).trans (World.cell?_alloc_at _ _ _ _ rfl)
  have p2 : w1.cell? ⟨W.heap.size, 2, none⟩ = some (.string fe) := (q2.cell (by omega) (by simp) 2).trans (World.cell?_alloc_at _ _ _ _ rfl)
  have p3 : w1.cell? ⟨W.heap.size, 3, none⟩ = some (.string se) := (q2.cell (by omega) (by simp) 3).trans (World.cell?_alloc_at _ _ _ _ rfl)
  have p4 : w1.cell? ⟨W.heap.size, 4, none⟩ = some (.slice ve1 ve2 ve3) := (q2.cell (by omega) (by simp) 4).trans (World.cell?_alloc_at _ _ _ _ rfl)
  have x0 := (hm1.cell hbx hbxW 0).trans b0
  have x1 := (hm1.cell hbx hbxW 1).trans b1
  have x2 := (hm1.cell hbx hbxW 2).trans b2
  have x3 := (hm1.cell hbx hbxW 3).trans b3
  have x4 := (hm1.cell hbx hbxW 4).trans b4
  have kp1 := (hm1.cell hbp hbpW 0).trans kp
  cases hs : sgn l j [93]
  · have hs' : sgn l j (ByteArray.mk #[93]).data.toList = false := hs
    have HB := veil (HBad.out hs w1 hm1)
    try rw [hs']
    clear q1 q2 hm1 HOk HBad
    go_wp2_with fail
    go_ret
    exact ⟨_, rfl, HB.out⟩
  · have hs' : sgn l j (ByteArray.mk #[93]).data.toList = true := hs
    rw [hs'] at q1
    have q1' : RdAt B l (j + 1) w1 := q1
    have hal : Below w1.heap.size w1 (w1.alloc (.cells #[.int .i64 k, .int .i64 nu, .string fo, .string s, .slice va1 va2 va3, .int .i64 ke, .int .i64 ne, .string fe, .string se, .slice ve1 ve2 ve3] 52)) := (Below.refl _ _).alloc (Nat.le_refl _) _
    have hm2 : Moved B W (w1.alloc (.cells #[.int .i64 k, .int .i64 nu, .string fo, .string s, .slice va1 va2 va3, .int .i64 ke, .int .i64 ne, .string fe, .string se, .slice ve1 ve2 ve3] 52)) := hm1.trans (Moved.of_below hal (by omega))
    have HK := veil (HOk.out hs _ _ hm2 (rd_below q1' hal) (ex_two (by omega) (HX.out.keep (fresh_keeps hBn hm2)) (HP.out.keep (fresh_keeps hBn hm2)) 7))
    try rw [hs']
    clear q1 q2 hm1 hm2 q1' hal HOk HBad HX HP
    go_wp2_with fail
    refine HK.out.mono ?_
    rintro e w' ⟨y, rfl, hy⟩
    have HY := veil hy
    clear hy
    go_wp2_with fail
    go_ret
    exact ⟨_, rfl, HY.out⟩

set_option maxHeartbeats 4000000 in
theorem places_next (f d : Nat) (hd1 : d < 100) (hE : ExprReads f (d + 1)) (B : Nat) (l : Toks) (n0 : Nat) (g : Nat) (lb : Array Value) (eg : ∀ args w, (callFunc g args).run Tryz.prog w = .ok (.enter g args) w) (R : Int → World → Prop) (br bk bd bp : Nat) (hBn : B < n0) :
    ∀ (n i : Nat) (x : Ex) (v : Value) (W : World), l.length - i < n → RdAt B l i W → ExIs (Fresh n0 W) W x v → Boxes B d g lb 134 br bk bd bp W → n0 ≤ W.heap.size →
    (∀ e, pPlaces (pEx l f) l n x i = .bad e → ∀ w', Moved B W w' → R e w') →
    (∀ y j, pPlaces (pEx l f) l n x i = .ok y j → ∀ w' v', Moved B W w' → RdAt B l j w' → ExIs (Fresh n0 w') w' y v' → Calls Tryz.prog g (#[v'] ++ lb) w' (Ends R)) →
    Calls Tryz.prog 134 #[v, .pointer (some ⟨br, 0, none⟩), .pointer (some ⟨bk, 0, none⟩), .pointer (some ⟨bd, 0, none⟩), .pointer (some ⟨bp, 0, none⟩)] W (Ends R) := by
  intro n
  induction n with
  | zero => intro i x v W hn; omega
  | succ n ih =>
    intro i x v W hn hr hx hbx hnW hbad hok
    obtain ⟨k, nu, fo, s, va, rfl, hcs⟩ := hx
    obtain ⟨va1, va2, va3, rfl⟩ := hcs.slice
    have HIH := veil ih
    have HEg := veil eg
    have HE := veil hE
    have HBad := veil hbad
    have HOk := veil hok
    have HC := veil hcs
    have HBx := veil hbx
    have hlt := rd_lt hr
    have hal : Below W.heap.size W (W.alloc (.cells #[.int .i64 k, .int .i64 nu, .string fo, .string s, .slice va1 va2 va3] 52)) := (Below.refl _ _).alloc (Nat.le_refl _) _
    have HM0 : Hid (Moved B W (W.alloc (.cells #[.int .i64 k, .int .i64 nu, .string fo, .string s, .slice va1 va2 va3] 52))) := Moved.of_below hal (by omega)
    have HR0 := veil (rd_below hr hal)
    have HP : Hid (pPlaces (pEx l f) l (n + 1) x i = if sgn l i [91] = true then (match pEx l f (i + 1) with
      | .bad e => .bad e
      | .ok p j => if sgn l j [93] = true then pPlaces (pEx l f) l n (exAt x p) (j + 1) else .bad 4) else .ok x i) := by show _ = _; rw [pPlaces]; rfl
    have hB0 := hbx.keep HM0.out
    have c1 := hB0.r
    have hef := makeFunc_run
    have HB0 := veil hB0
    clear hbad hok hr ih hal eg hcs hbx hE hB0
    go_enter Tryz.func134, Tryz.ntmps134
    go_wp2_with fail
    refine (sign_next B l i ⟨#[91]⟩ _ HR0.out).mono ?_
    rintro e w1 ⟨rfl, q1, q2⟩
    have HN1 := veil q2
    have HM1 := veil (HM0.out.trans q2)
    have hsz1 : W.heap.size + 1 ≤ w1.heap.size := by have := q2.below.size; simpa using this
    have hB1 := HB0.out.keep q2
    have e0 : w1.cell? ⟨W.heap.size, 0, none⟩ = some (.int .i64 k) := (q2.cell (by omega) (by simp) 0).trans (World.cell?_alloc_at _ _ _ _ rfl)
    have e1 : w1.cell? ⟨W.heap.size, 1, none⟩ = some (.int .i64 nu) := (q2.cell (by omega) (by simp) 1).trans (World.cell?_alloc_at _ _ _ _ rfl)
    have e2 : w1.cell? ⟨W.heap.size, 2, none⟩ = some (.string fo) := (q2.cell (by omega) (by simp) 2).trans (World.cell?_alloc_at _ _ _ _ rfl)
    have e3 : w1.cell? ⟨W.heap.size, 3, none⟩ = some (.string s) := (q2.cell (by omega) (by simp) 3).trans (World.cell?_alloc_at _ _ _ _ rfl)
    have e4 : w1.cell? ⟨W.heap.size, 4, none⟩ = some (.slice va1 va2 va3) := (q2.cell (by omega) (by simp) 4).trans (World.cell?_alloc_at _ _ _ _ rfl)
    have k1 := hB1.r
    have k2 := hB1.k
    have k3 := hB1.d
    have HB1 := veil hB1
    clear hB1 c1
    cases hs : sgn l i [91]
    · have hs' : sgn l i (ByteArray.mk #[91]).data.toList = false := hs
      rw [hs'] at q1
      rw [if_neg (by rw [hs]; simp)] at HP
      have HK := veil (HOk.out _ _ HP.out w1 _ HM1.out q1 ⟨_, _, _, _, _, rfl, HC.out.keep (fresh_keeps hBn HM1.out)⟩)
      have eg := HEg.out
      try rw [hs']
      clear q1 q2 HBad HOk
      go_wp2_with fail
      refine HK.out.mono ?_
      rintro e w' ⟨y, rfl, hy⟩
      have HY := veil hy
      clear hy
      go_wp2_with fail
      go_ret
      exact ⟨_, rfl, HY.out⟩
    · have hs' : sgn l i (ByteArray.mk #[91]).data.toList = true := hs
      have hil := sgn_lt hs
      rw [hs'] at q1
      rw [if_pos hs] at HP
      have HR1 : Hid (RdAt B l (i + 1) w1) := q1
      have en : ((d + 1 : Nat) : Int) = (d : Int) + 1 := by omega
      have cI := HE.out B l (i + 1) w1 135 #[.pointer (some ⟨br, 0, none⟩), .pointer (some ⟨bp, 0, none⟩), .pointer (some ⟨W.heap.size, 0, none⟩)] (enters_of Tryz.func135 (by kernel_rfl) rfl) R HR1.out
        (fun e he w' hm => HBad.out e (by rw [HP.out, he]) w' (HM1.out.trans hm))
        (fun p j hp W2 v hm hr2 hv => by
          have hadv := pEx_adv f _ _ _ hp
          have hm2 := HM1.out.trans hm
          have hB2 := HB1.out.keep hm
          have hsz2 := hm.below.size
          have b0 := (hm.cell (c := W.heap.size) (by omega) (by omega) 0).trans e0
          have b1 := (hm.cell (c := W.heap.size) (by omega) (by omega) 1).trans e1
          have b2 := (hm.cell (c := W.heap.size) (by omega) (by omega) 2).trans e2
          have b3 := (hm.cell (c := W.heap.size) (by omega) (by omega) 3).trans e3
          have b4 := (hm.cell (c := W.heap.size) (by omega) (by omega) 4).trans e4
          have hv2 := ex_wider (n := n0) (by omega) hv
          obtain ⟨ke, ne, fe, se, ve, rfl, hce⟩ := hv2
          obtain ⟨ve1, ve2, ve3, rfl⟩ := hce.slice
          have hcx := HC.out.keep (fresh_keeps hBn hm2)
          exact place_back B l n0 j br bp W.heap.size 134 #[.pointer (some ⟨br, 0, none⟩), .pointer (some ⟨bk, 0, none⟩), .pointer (some ⟨bd, 0, none⟩), .pointer (some ⟨bp, 0, none⟩)] (enters_of Tryz.func134 (by kernel_rfl) rfl) R x p W2 k nu ke ne fo s fe se va1 ve1 va2 va3 ve2 ve3 hBn (by omega) hr2 hB2.r hB2.p hB2.hr hB2.hp (by omega) b0 b1 b2 b3 b4 hcx hce
            (fun hs2 w' hm' => HBad.out 4 (by rw [HP.out, hp]; simp [hs2]) w' (hm2.trans hm'))
            (fun hs2 w' v' hm' hr' hv' => HIH.out (j + 1) (exAt x p) v' w' (by have := sgn_lt hs2; omega) hr' hv' (hB2.keep hm') (by have := hm'.below.size; omega)
              (fun e he w'' hm'' => HBad.out e (by rw [HP.out, hp]; simp [hs2, he]) w'' ((hm2.trans hm').trans hm''))
              (fun y j' hy w'' v'' hm'' hr'' hv'' => HOk.out y j' (by rw [HP.out, hp]; simp [hs2, hy]) w'' v'' ((hm2.trans hm').trans hm'') hr'' hv'')))
      rw [en] at cI
      have HCI := veil cI
      try rw [hs']
      clear q1 q2 HBad HOk cI
      go_wp2_with fail
      refine HCI.out.mono ?_
      rintro e w' ⟨y, rfl, hy⟩
      have HY := veil hy
      clear hy
      go_wp2_with fail
      go_ret
      exact ⟨_, rfl, HY.out⟩

end Go.Proofs.YtpamadnckijfkabGreatDoor
