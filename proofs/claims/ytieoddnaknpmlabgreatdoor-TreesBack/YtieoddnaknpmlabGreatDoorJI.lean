/- What the reader's operand and expr do around what stands between pluses: they read operands, each by the reading that is handed in, and hand the sum of them to the way back. -/
import Derived.Test.YtieoddnaknpmlabGreatDoorJF
import Derived.Test.YtieoddnaknpmlabGreatDoorShelf
import Derived.Test.YtieoddnaknpmlabGreatDoorJG
import Derived.Laws.EntriesVeiled
import Derived.Lib.UnsafeStr
namespace Go.Proofs.YtieoddnaknpmlabGreatDoor
open Go.RowKit
set_option maxRecDepth 100000

/-- the reader's operand, and its something, read as 'pTail' and 'pHead' say. -/
def OperandReads (f d : Nat) : Prop := ∀ (B : Nat) (l : Toks) (i : Nat) (w : World) (g : Nat) (lb : Array Value), (∀ args w, (callFunc g args).run Tryz.prog w = .ok (.enter g args) w) → ∀ (R : Int → World → Prop), RdAt B l i w →
    (∀ e, pTail (pEx l f) l i = .bad e → ∀ w', Moved B w w' → R e w') →
    (∀ x j, pTail (pEx l f) l i = .ok x j → ∀ w' v, Moved B w w' → RdAt B l j w' → ExIs (Fresh w.heap.size w') w' x v → Calls Tryz.prog g (#[v] ++ lb) w' (Ends R)) →
    Calls Tryz.prog 111 #[.pointer (some ⟨B, 0, none⟩), .int .i64 d, .func (.func g) #[] lb] w (Ends R)
def HeadReads (f d : Nat) : Prop := ∀ (B : Nat) (l : Toks) (i : Nat) (w : World) (g : Nat) (lb : Array Value), (∀ args w, (callFunc g args).run Tryz.prog w = .ok (.enter g args) w) → ∀ (R : Int → World → Prop), RdAt B l i w →
    (∀ e, pHead (pEx l f) l i = .bad e → ∀ w', Moved B w w' → R e w') →
    (∀ x j, pHead (pEx l f) l i = .ok x j → ∀ w' v, Moved B w w' → RdAt B l j w' → ExIs (Fresh w.heap.size w') w' x v → Calls Tryz.prog g (#[v] ++ lb) w' (Ends R)) →
    Calls Tryz.prog 136 #[.pointer (some ⟨B, 0, none⟩), .int .i64 d, .func (.func g) #[] lb] w (Ends R)

set_option maxHeartbeats 2000000 in
/-- behind the second operand of a sum; 'self': the closure that goes on behind it. -/
theorem sum_back (B : Nat) (l : Toks) (n0 j bp bx self : Nat) (caps : Array Value) (es : ∀ args w, (callFunc self args).run Tryz.prog w = .ok (.enter self args) w) (R : Int → World → Prop) (x p : Ex) (W : World) (k nu ke ne : Int) (fo s fe se : ByteArray) (va1 ve1 : Option Addr) (va2 va3 ve2 ve3 : Nat)
    (hBn : B < n0) (hnW : n0 ≤ W.heap.size) (hr : RdAt B l j W) (kp : W.cell? ⟨bp, 0, none⟩ = some (.func (.func self) #[] caps))
    (b0 : W.cell? ⟨bx, 0, none⟩ = some (.int .i64 k)) (b1 : W.cell? ⟨bx, 1, none⟩ = some (.int .i64 nu)) (b2 : W.cell? ⟨bx, 2, none⟩ = some (.string fo)) (b3 : W.cell? ⟨bx, 3, none⟩ = some (.string s)) (b4 : W.cell? ⟨bx, 4, none⟩ = some (.slice va1 va2 va3))
    (hx : ExCs (Fresh n0 W) W x k nu fo s (.slice va1 va2 va3)) (hp : ExCs (Fresh n0 W) W p ke ne fe se (.slice ve1 ve2 ve3))
    (hok : ∀ w' v, Moved B W w' → RdAt B l j w' → ExIs (Fresh n0 w') w' (exSum x p) v → Calls Tryz.prog self (#[v] ++ caps) w' (Ends R)) :
    Calls Tryz.prog 112 #[.agg #[.int .i64 ke, .int .i64 ne, .string fe, .string se, .slice ve1 ve2 ve3], .pointer (some ⟨bp, 0, none⟩), .pointer (some ⟨bx, 0, none⟩)] W (Ends R) := by
  have hlt := rd_lt hr
  have hbpW := World.block_lt_of_cell? W _ kp
  have hbxW : bx < W.heap.size := World.block_lt_of_cell? W _ b0
  have hal : Below W.heap.size W ((W.alloc (.cells #[.int .i64 ke, .int .i64 ne, .string fe, .string se, .slice ve1 ve2 ve3] 52)).alloc (.cells #[.int .i64 k, .int .i64 nu, .string fo, .string s, .slice va1 va2 va3, .int .i64 ke, .int .i64 ne, .string fe, .string se, .slice ve1 ve2 ve3] 52)) := ((Below.refl _ _).alloc (Nat.le_refl _) _).alloc (by simp) _
  have hm2 : Moved B W ((W.alloc (.cells #[.int .i64 ke, .int .i64 ne, .string fe, .string se, .slice ve1 ve2 ve3] 52)).alloc (.cells #[.int .i64 k, .int .i64 nu, .string fo, .string s, .slice va1 va2 va3, .int .i64 ke, .int .i64 ne, .string fe, .string se, .slice ve1 ve2 ve3] 52)) := Moved.of_below hal (by omega)
  have HK := veil (hok _ _ hm2 (rd_below hr hal) (ex_two (W := W.alloc (.cells #[.int .i64 ke, .int .i64 ne, .string fe, .string se, .slice ve1 ve2 ve3] 52)) (by simp; omega) (hx.keep (fresh_keeps hBn hm2)) (hp.keep (fresh_keeps hBn hm2)) 5))
  have hbpW' : bp < W.heap.size := hbpW
  rw [show (W.alloc (.cells #[.int .i64 ke, .int .i64 ne, .string fe, .string se, .slice ve1 ve2 ve3] 52)).heap.size = W.heap.size + 1 by simp] at HK
  clear hok hx hp hr hal hm2
  go_enter Tryz.func112, Tryz.ntmps112
  go_wp2_with fail
  refine HK.out.mono ?_
  rintro e w' ⟨y, rfl, hy⟩
  have HY := veil hy
  clear hy
  go_wp2_with fail
  go_ret
  exact ⟨_, rfl, HY.out⟩

set_option maxHeartbeats 4000000 in
theorem sums_next (f d : Nat) (hE : OperandReads f d) (B : Nat) (l : Toks) (n0 : Nat) (g : Nat) (lb : Array Value) (eg : ∀ args w, (callFunc g args).run Tryz.prog w = .ok (.enter g args) w) (R : Int → World → Prop) (br bk bd bp : Nat) (hBn : B < n0) :
    ∀ (n i : Nat) (x : Ex) (v : Value) (W : World), l.length - i < n → RdAt B l i W → ExIs (Fresh n0 W) W x v → Boxes B d g lb 110 br bk bd bp W → n0 ≤ W.heap.size →
    (∀ e, pSums (pEx l f) l n x i = .bad e → ∀ w', Moved B W w' → R e w') →
    (∀ y j, pSums (pEx l f) l n x i = .ok y j → ∀ w' v', Moved B W w' → RdAt B l j w' → ExIs (Fresh n0 w') w' y v' → Calls Tryz.prog g (#[v'] ++ lb) w' (Ends R)) →
    Calls Tryz.prog 110 #[v, .pointer (some ⟨br, 0, none⟩), .pointer (some ⟨bk, 0, none⟩), .pointer (some ⟨bd, 0, none⟩), .pointer (some ⟨bp, 0, none⟩)] W (Ends R) := by
  intro n
  induction n with
  | zero => intro i x v W hn; omega
  | succ n ih =>
    intro i x v W hn hr hx hbx hnW hbad hok
    obtain ⟨k, nu, fo, s, va, rfl, hcs⟩ := hx
    obtain ⟨va1, va2, va3, rfl⟩ := hcs.slice
    have HIH := veil ih
    have HEg := veil eg
    have HE := veil hE
    have HBad := veil hbad
    have HOk := veil hok
    have HC := veil hcs
    have HBx := veil hbx
    have hlt := rd_lt hr
    have hal : Below W.heap.size W (W.alloc (.cells #[.int .i64 k, .int .i64 nu, .string fo, .string s, .slice va1 va2 va3] 52)) := (Below.refl _ _).alloc (Nat.le_refl _) _
    have HM0 : Hid (Moved B W (W.alloc (.cells #[.int .i64 k, .int .i64 nu, .string fo, .string s, .slice va1 va2 va3] 52))) := Moved.of_below hal (by omega)
    have HR0 := veil (rd_below hr hal)
    have HP : Hid (pSums (pEx l f) l (n + 1) x i = if sgn l i [43] = true then (match pTail (pEx l f) l (i + 1) with
      | .bad e => .bad e
      | .ok y j => pSums (pEx l f) l n (exSum x y) j) else .ok x i) := by show _ = _; rw [pSums]; rfl
    have hB0 := hbx.keep HM0.out
    have c1 := hB0.r
    have hef := makeFunc_run
    have HB0 := veil hB0
    clear hbad hok hr ih hal eg hcs hbx hE hB0
    go_enter Tryz.func110, Tryz.ntmps110
    go_wp2_with fail
    refine (sign_next B l i ⟨#[43]⟩ _ HR0.out).mono ?_
    rintro e w1 ⟨rfl, q1, q2⟩
    have HN1 := veil q2
    have HM1 := veil (HM0.out.trans q2)
    have hsz1 : W.heap.size + 1 ≤ w1.heap.size := by have := q2.below.size; simpa using this
    have hB1 := HB0.out.keep q2
    have e0 : w1.cell? ⟨W.heap.size, 0, none⟩ = some (.int .i64 k) := (q2.cell (by omega) (by simp) 0).trans (World.cell?_alloc_at _ _ _ _ rfl)
    have e1 : w1.cell? ⟨W.heap.size, 1, none⟩ = some (.int .i64 nu) := (q2.cell (by omega) (by simp) 1).trans (World.cell?_alloc_at _ _ _ _ rfl)
    have e2 : w1.cell? ⟨W.heap.size, 2, none⟩ = some (.string fo) := (q2.cell (by omega) (by simp) 2).trans (World.cell?_alloc_at _ _ _ _ rfl)
    have e3 : w1.cell? ⟨W.heap.size, 3, none⟩ = some (.string s) := (q2.cell (by omega) (by simp) 3).trans (World.cell?_alloc_at _ _ _ _ rfl)
    have e4 : w1.cell? ⟨W.heap.size, 4, none⟩ = some (.slice va1 va2 va3) := (q2.cell (by omega) (by simp) 4).trans (World.cell?_alloc_at _ _ _ _ rfl)
    have k1 := hB1.r
    have k2 := hB1.k
    have k3 := hB1.d
    have HB1 := veil hB1
    clear hB1 c1
    cases hs : sgn l i [43]
    · have hs' : sgn l i (ByteArray.mk #[43]).data.toList = false := hs
      rw [hs'] at q1
      rw [if_neg (by rw [hs]; simp)] at HP
      have HK := veil (HOk.out _ _ HP.out w1 _ HM1.out q1 ⟨_, _, _, _, _, rfl, HC.out.keep (fresh_keeps hBn HM1.out)⟩)
      have eg := HEg.out
      try rw [hs']
      clear q1 q2 HBad HOk
      go_wp2_with fail
      refine HK.out.mono ?_
      rintro e w' ⟨y, rfl, hy⟩
      have HY := veil hy
      clear hy
      go_wp2_with fail
      go_ret
      exact ⟨_, rfl, HY.out⟩
    · have hs' : sgn l i (ByteArray.mk #[43]).data.toList = true := hs
      have hil := sgn_lt hs
      rw [hs'] at q1
      rw [if_pos hs] at HP
      have HR1 : Hid (RdAt B l (i + 1) w1) := q1
      have cI := HE.out B l (i + 1) w1 112 #[.pointer (some ⟨bp, 0, none⟩), .pointer (some ⟨W.heap.size, 0, none⟩)] (enters_of Tryz.func112 (by kernel_rfl) rfl) R HR1.out
        (fun e he w' hm => HBad.out e (by rw [HP.out, he]) w' (HM1.out.trans hm))
        (fun p j hp W2 v hm hr2 hv => by
          have hadv := pTail_adv (fun i x j => pEx_adv f i x j) hp
          have hm2 := HM1.out.trans hm
          have hB2 := HB1.out.keep hm
          have hsz2 := hm.below.size
          have b0 := (hm.cell (c := W.heap.size) (by omega) (by omega) 0).trans e0
          have b1 := (hm.cell (c := W.heap.size) (by omega) (by omega) 1).trans e1
          have b2 := (hm.cell (c := W.heap.size) (by omega) (by omega) 2).trans e2
          have b3 := (hm.cell (c := W.heap.size) (by omega) (by omega) 3).trans e3
          have b4 := (hm.cell (c := W.heap.size) (by omega) (by omega) 4).trans e4
          have hv2 := ex_wider (n := n0) (by omega) hv
          obtain ⟨ke, ne, fe, se, ve, rfl, hce⟩ := hv2
          obtain ⟨ve1, ve2, ve3, rfl⟩ := hce.slice
          have hcx := HC.out.keep (fresh_keeps hBn hm2)
          exact sum_back B l n0 j bp W.heap.size 110 #[.pointer (some ⟨br, 0, none⟩), .pointer (some ⟨bk, 0, none⟩), .pointer (some ⟨bd, 0, none⟩), .pointer (some ⟨bp, 0, none⟩)] (enters_of Tryz.func110 (by kernel_rfl) rfl) R x p W2 k nu ke ne fo s fe se va1 ve1 va2 va3 ve2 ve3 hBn (by omega) hr2 hB2.p b0 b1 b2 b3 b4 hcx hce
            (fun w' v' hm' hr' hv' => HIH.out j (exSum x p) v' w' (by omega) hr' hv' (hB2.keep hm') (by have := hm'.below.size; omega)
              (fun e he w'' hm'' => HBad.out e (by rw [HP.out, hp]; exact he) w'' ((hm2.trans hm').trans hm''))
              (fun y j' hy w'' v'' hm'' hr'' hv'' => HOk.out y j' (by rw [HP.out, hp]; exact hy) w'' v'' ((hm2.trans hm').trans hm'') hr'' hv'')))
      have HCI := veil cI
      try rw [hs']
      clear q1 q2 HBad HOk cI
      go_wp2_with fail
      refine HCI.out.mono ?_
      rintro e w' ⟨y, rfl, hy⟩
      have HY := veil hy
      clear hy
      go_wp2_with fail
      go_ret
      exact ⟨_, rfl, HY.out⟩

set_option maxHeartbeats 2000000 in
theorem operand_next (f d : Nat) (hd1 : d < 100) (hE : ExprReads f (d + 1)) (hH : HeadReads f d) : OperandReads f d := by
  intro B l i w g lb eg R hr hbad hok
  have hlt := rd_lt hr
  have hal : Below w.heap.size w ((((w.alloc (.cells #[.pointer (some ⟨B, 0, none⟩)] 76)).alloc (.cells #[.int .i64 d] 3)).alloc (.cells #[.func (.func g) #[] lb] 128)).alloc (.cells #[.func (.func 134) #[] #[.pointer (some ⟨w.heap.size, 0, none⟩), .pointer (some ⟨w.heap.size + 2, 0, none⟩), .pointer (some ⟨w.heap.size + 1, 0, none⟩), .pointer (some ⟨w.heap.size + 3, 0, none⟩)]] 128)) := ((((Below.refl _ _).alloc (Nat.le_refl _) _).alloc (by simp) _).alloc (by simp; omega) _).alloc (by simp; omega) _
  have hm : Moved B w ((((w.alloc (.cells #[.pointer (some ⟨B, 0, none⟩)] 76)).alloc (.cells #[.int .i64 d] 3)).alloc (.cells #[.func (.func g) #[] lb] 128)).alloc (.cells #[.func (.func 134) #[] #[.pointer (some ⟨w.heap.size, 0, none⟩), .pointer (some ⟨w.heap.size + 2, 0, none⟩), .pointer (some ⟨w.heap.size + 1, 0, none⟩), .pointer (some ⟨w.heap.size + 3, 0, none⟩)]] 128)) := Moved.of_below hal (by omega)
  have hbx : Boxes B d g lb 134 w.heap.size (w.heap.size + 2) (w.heap.size + 1) (w.heap.size + 3) ((((w.alloc (.cells #[.pointer (some ⟨B, 0, none⟩)] 76)).alloc (.cells #[.int .i64 d] 3)).alloc (.cells #[.func (.func g) #[] lb] 128)).alloc (.cells #[.func (.func 134) #[] #[.pointer (some ⟨w.heap.size, 0, none⟩), .pointer (some ⟨w.heap.size + 2, 0, none⟩), .pointer (some ⟨w.heap.size + 1, 0, none⟩), .pointer (some ⟨w.heap.size + 3, 0, none⟩)]] 128)) := by
    refine ⟨?_, ?_, ?_, World.cell?_alloc_at _ _ _ _ (by simp), by omega, by omega, by omega, by omega⟩
    · exact (World.cell?_alloc_old _ _ _ (by first | (simp; done) | (simp; omega))).trans ((World.cell?_alloc_old _ _ _ (by first | (simp; done) | (simp; omega))).trans ((World.cell?_alloc_old _ _ _ (by first | (simp; done) | (simp; omega))).trans (World.cell?_alloc_at _ _ _ _ rfl)))
    · exact (World.cell?_alloc_old _ _ _ (by first | (simp; done) | (simp; omega))).trans (World.cell?_alloc_at _ _ _ _ (by simp))
    · exact (World.cell?_alloc_old _ _ _ (by first | (simp; done) | (simp; omega))).trans ((World.cell?_alloc_old _ _ _ (by first | (simp; done) | (simp; omega))).trans (World.cell?_alloc_at _ _ _ _ (by simp)))
  have cI := hH B l i ((((w.alloc (.cells #[.pointer (some ⟨B, 0, none⟩)] 76)).alloc (.cells #[.int .i64 d] 3)).alloc (.cells #[.func (.func g) #[] lb] 128)).alloc (.cells #[.func (.func 134) #[] #[.pointer (some ⟨w.heap.size, 0, none⟩), .pointer (some ⟨w.heap.size + 2, 0, none⟩), .pointer (some ⟨w.heap.size + 1, 0, none⟩), .pointer (some ⟨w.heap.size + 3, 0, none⟩)]] 128)) 134 #[.pointer (some ⟨w.heap.size, 0, none⟩), .pointer (some ⟨w.heap.size + 2, 0, none⟩), .pointer (some ⟨w.heap.size + 1, 0, none⟩), .pointer (some ⟨w.heap.size + 3, 0, none⟩)] (enters_of Tryz.func134 (by kernel_rfl) rfl) R (rd_below hr hal)
    (fun e he w' hm' => hbad e (by rw [pTail, he]) w' (hm.trans hm'))
    (fun x j hx w' v hm' hr' hv => places_next f d hd1 hE B l w.heap.size g lb eg R w.heap.size (w.heap.size + 2) (w.heap.size + 1) (w.heap.size + 3) hlt (l.length + 1) j x v w' (by omega) hr' (ex_wider (by simp; omega) hv) (hbx.keep hm') (by have := hm'.below.size; simp at this; omega)
      (fun e he w'' hm'' => hbad e (by rw [pTail, hx]; exact he) w'' ((hm.trans hm').trans hm''))
      (fun y j' hy w'' v' hm'' hr'' hv' => hok y j' (by rw [pTail, hx]; exact hy) w'' v' ((hm.trans hm').trans hm'') hr'' hv'))
  have HCI := veil cI
  have hef := makeFunc_run
  clear cI hbad hok hr hal hm hbx hH eg
  go_enter Tryz.func111, Tryz.ntmps111
  go_wp2_with fail
  refine HCI.out.mono ?_
  rintro e w' ⟨y, rfl, hy⟩
  have HY := veil hy
  clear hy
  go_wp2_with fail
  go_ret
  exact ⟨_, rfl, HY.out⟩

theorem expr_zero (d : Nat) (hd : 40 < d) (hd2 : d < 100) : ExprReads 0 d := by
  intro B l i w g lb eg R hr hbad hok
  have hlt := rd_lt hr
  have hd' : (40 : Int) < (d : Int) := by omega
  have HB := veil (hbad 1 (by rw [pEx]) (((w.alloc (.cells #[.pointer (some ⟨B, 0, none⟩)] 76)).alloc (.cells #[.int .i64 d] 3)).alloc (.cells #[.func (.func g) #[] lb] 128)) (((Moved.of_below ((Below.refl _ _).alloc (Nat.le_refl _) _) (by omega)).alloc (by simp; omega) _).alloc (by simp; omega) _))
  clear hbad hok eg hr hd2
  go_enter Tryz.func74, Tryz.ntmps74
  go_wp2_with fail
  go_ret
  exact ⟨_, rfl, HB.out⟩

set_option maxHeartbeats 2000000 in
theorem expr_succ (f d : Nat) (hd1 : d ≤ 40) (hH : OperandReads f d) : ExprReads (f + 1) d := by
  intro B l i w g lb eg R hr hbad hok
  have hH' := hH
  have hlt := rd_lt hr
  have hal : Below w.heap.size w ((((w.alloc (.cells #[.pointer (some ⟨B, 0, none⟩)] 76)).alloc (.cells #[.int .i64 d] 3)).alloc (.cells #[.func (.func g) #[] lb] 128)).alloc (.cells #[.func (.func 110) #[] #[.pointer (some ⟨w.heap.size, 0, none⟩), .pointer (some ⟨w.heap.size + 2, 0, none⟩), .pointer (some ⟨w.heap.size + 1, 0, none⟩), .pointer (some ⟨w.heap.size + 3, 0, none⟩)]] 128)) := ((((Below.refl _ _).alloc (Nat.le_refl _) _).alloc (by simp) _).alloc (by simp; omega) _).alloc (by simp; omega) _
  have hm : Moved B w ((((w.alloc (.cells #[.pointer (some ⟨B, 0, none⟩)] 76)).alloc (.cells #[.int .i64 d] 3)).alloc (.cells #[.func (.func g) #[] lb] 128)).alloc (.cells #[.func (.func 110) #[] #[.pointer (some ⟨w.heap.size, 0, none⟩), .pointer (some ⟨w.heap.size + 2, 0, none⟩), .pointer (some ⟨w.heap.size + 1, 0, none⟩), .pointer (some ⟨w.heap.size + 3, 0, none⟩)]] 128)) := Moved.of_below hal (by omega)
  have hbx : Boxes B d g lb 110 w.heap.size (w.heap.size + 2) (w.heap.size + 1) (w.heap.size + 3) ((((w.alloc (.cells #[.pointer (some ⟨B, 0, none⟩)] 76)).alloc (.cells #[.int .i64 d] 3)).alloc (.cells #[.func (.func g) #[] lb] 128)).alloc (.cells #[.func (.func 110) #[] #[.pointer (some ⟨w.heap.size, 0, none⟩), .pointer (some ⟨w.heap.size + 2, 0, none⟩), .pointer (some ⟨w.heap.size + 1, 0, none⟩), .pointer (some ⟨w.heap.size + 3, 0, none⟩)]] 128)) := by
    refine ⟨?_, ?_, ?_, World.cell?_alloc_at _ _ _ _ (by simp), by omega, by omega, by omega, by omega⟩
    · exact (World.cell?_alloc_old _ _ _ (by first | (simp; done) | (simp; omega))).trans ((World.cell?_alloc_old _ _ _ (by first | (simp; done) | (simp; omega))).trans ((World.cell?_alloc_old _ _ _ (by first | (simp; done) | (simp; omega))).trans (World.cell?_alloc_at _ _ _ _ rfl)))
    · exact (World.cell?_alloc_old _ _ _ (by first | (simp; done) | (simp; omega))).trans (World.cell?_alloc_at _ _ _ _ (by simp))
    · exact (World.cell?_alloc_old _ _ _ (by first | (simp; done) | (simp; omega))).trans ((World.cell?_alloc_old _ _ _ (by first | (simp; done) | (simp; omega))).trans (World.cell?_alloc_at _ _ _ _ (by simp)))
  have cI := hH B l i ((((w.alloc (.cells #[.pointer (some ⟨B, 0, none⟩)] 76)).alloc (.cells #[.int .i64 d] 3)).alloc (.cells #[.func (.func g) #[] lb] 128)).alloc (.cells #[.func (.func 110) #[] #[.pointer (some ⟨w.heap.size, 0, none⟩), .pointer (some ⟨w.heap.size + 2, 0, none⟩), .pointer (some ⟨w.heap.size + 1, 0, none⟩), .pointer (some ⟨w.heap.size + 3, 0, none⟩)]] 128)) 110 #[.pointer (some ⟨w.heap.size, 0, none⟩), .pointer (some ⟨w.heap.size + 2, 0, none⟩), .pointer (some ⟨w.heap.size + 1, 0, none⟩), .pointer (some ⟨w.heap.size + 3, 0, none⟩)] (enters_of Tryz.func110 (by kernel_rfl) rfl) R (rd_below hr hal)
    (fun e he w' hm' => hbad e (by rw [pEx, he]) w' (hm.trans hm'))
    (fun x j hx w' v hm' hr' hv => sums_next f d hH' B l w.heap.size g lb eg R w.heap.size (w.heap.size + 2) (w.heap.size + 1) (w.heap.size + 3) hlt (l.length + 1) j x v w' (by omega) hr' (ex_wider (by simp; omega) hv) (hbx.keep hm') (by have := hm'.below.size; simp at this; omega)
      (fun e he w'' hm'' => hbad e (by rw [pEx, hx]; exact he) w'' ((hm.trans hm').trans hm''))
      (fun y j' hy w'' v' hm'' hr'' hv' => hok y j' (by rw [pEx, hx]; exact hy) w'' v' ((hm.trans hm').trans hm'') hr'' hv'))
  have HCI := veil cI
  have hef := makeFunc_run
  have hd' : ¬ (40 : Int) < (d : Int) := by omega
  clear cI hbad hok hr hal hm hbx hH hH' eg
  go_enter Tryz.func74, Tryz.ntmps74
  go_wp2_with fail
  refine HCI.out.mono ?_
  rintro e w' ⟨y, rfl, hy⟩
  have HY := veil hy
  clear hy
  go_wp2_with fail
  go_ret
  exact ⟨_, rfl, HY.out⟩

end Go.Proofs.YtieoddnaknpmlabGreatDoor

/- What the reader's paramOrCall answers, at every reader and every way back, where args reads lists: a param or a call, handed to the way back; or what is wrong first. -/
namespace Go.Proofs.YtieoddnaknpmlabGreatDoor
open Go.RowKit
set_option maxRecDepth 100000

/-- the reader's args reads as 'pList' says. -/
def ArgsReads (f d : Nat) : Prop := ∀ (B : Nat) (l : Toks) (i : Nat) (fin : ByteArray) (w : World) (g : Nat) (lb : Array Value), (∀ args w, (callFunc g args).run Tryz.prog w = .ok (.enter g args) w) → ∀ (R : Int → World → Prop), RdAt B l i w →
    (∀ e, pList (pEx l f) l fin.data.toList (l.length + 1) [] i = .bad e → ∀ w', Moved B w w' → R e w') →
    (∀ xs j, pList (pEx l f) l fin.data.toList (l.length + 1) [] i = .ok xs j → ∀ w' v, Moved B w w' → RdAt B l j w' → SlAt (Fresh w.heap.size w') (ExAt (Fresh w.heap.size w') w') 5 xs v → Calls Tryz.prog g (#[v] ++ lb) w' (Ends R)) →
    Calls Tryz.prog 143 #[.pointer (some ⟨B, 0, none⟩), .int .i64 d, .string fin, .func (.func g) #[] lb] w (Ends R)

def CallReads (f d : Nat) : Prop := ∀ (B : Nat) (l : Toks) (i : Nat) (w : World) (g : Nat) (lb : Array Value), (∀ args w, (callFunc g args).run Tryz.prog w = .ok (.enter g args) w) → ∀ (R : Int → World → Prop), RdAt B l i w →
    (∀ e, pCall (pEx l f) l i = .bad e → ∀ w', Moved B w w' → R e w') →
    (∀ x j, pCall (pEx l f) l i = .ok x j → ∀ w' v, Moved B w w' → RdAt B l j w' → ExIs (Fresh w.heap.size w') w' x v → Calls Tryz.prog g (#[v] ++ lb) w' (Ends R)) →
    Calls Tryz.prog 146 #[.pointer (some ⟨B, 0, none⟩), .int .i64 d, .func (.func g) #[] lb] w (Ends R)

theorem call_back (g : Nat) (lb : Array Value) (eg : ∀ args w, (callFunc g args).run Tryz.prog w = .ok (.enter g args) w) (R : Int → World → Prop) (bk bo bn : Nat) (o n : ByteArray) (va1 : Option Addr) (va2 va3 : Nat) (W : World)
    (hk : W.cell? ⟨bk, 0, none⟩ = some (.func (.func g) #[] lb)) (ho : W.cell? ⟨bo, 0, none⟩ = some (.string o)) (hn : W.cell? ⟨bn, 0, none⟩ = some (.string n))
    (h : Calls Tryz.prog g (#[.agg #[.int .i64 4, .int .i64 0, .string o, .string n, .slice va1 va2 va3]] ++ lb) W (Ends R)) :
    Calls Tryz.prog 156 #[.slice va1 va2 va3, .pointer (some ⟨bk, 0, none⟩), .pointer (some ⟨bo, 0, none⟩), .pointer (some ⟨bn, 0, none⟩)] W (Ends R) := by
  have HK := veil h
  clear h
  go_enter Tryz.func156, Tryz.ntmps156
  go_wp2_with fail
  refine HK.out.mono ?_
  rintro e w' ⟨y, rfl, hy⟩
  have HY := veil hy
  clear hy
  go_wp2_with fail
  go_ret
  exact ⟨_, rfl, HY.out⟩

set_option maxHeartbeats 4000000 in
theorem call_next (f d : Nat) (hA : ArgsReads f d) : CallReads f d := by
  intro B l i w g lb eg R hr hbad hok
  have hlt := rd_lt hr
  have hal : Below w.heap.size w (w.alloc (.cells #[.func (.func g) #[] lb] 128)) := (Below.refl _ _).alloc (Nat.le_refl _) _
  have HM0 : Hid (Moved B w (w.alloc (.cells #[.func (.func g) #[] lb] 128))) := Moved.of_below hal (by omega)
  have HR0 := veil (rd_below hr hal)
  have HBad := veil hbad
  have HOk := veil hok
  have HEg := veil eg
  have HA := veil hA
  have hef := makeFunc_run
  have HP : Hid (pCall (pEx l f) l i = match nameAt l i with
    | .bad e => .bad e
    | .ok x j => if sgn l j [40] = true then (if sgn l (j + 1) [41] = true then .ok (exCall x.1 x.2 []) (j + 2) else match pList (pEx l f) l [41] (l.length + 1) [] (j + 1) with
        | .bad e => .bad e
        | .ok xs j' => .ok (exCall x.1 x.2 xs) j') else if noneB x.1 = true then .ok (exParam x.2) j else .bad 4) := by show _ = _; unfold pCall; rfl
  clear hbad hok hr hal eg hA
  go_enter Tryz.func146, Tryz.ntmps146
  go_wp2_with fail
  refine (name_next B l i _ HR0.out).mono ?_
  rintro e w1 ⟨hm, ⟨hn, o, t, rfl⟩ | ⟨o, t, j, hn, ho, hti, rfl, hr⟩⟩
  · rw [hn] at HP
    have hsz1 : w.heap.size + 1 ≤ w1.heap.size := by have := hm.below.size; simpa using this
    have HB := veil (HBad.out _ HP.out ((w1.alloc (.cells #[.string o] 9)).alloc (.cells #[.string t] 9)) (((HM0.out.trans hm).alloc (by omega) _).alloc (by simp; omega) _))
    clear hm hn HBad HOk
    go_wp2_with fail
    go_ret
    exact ⟨_, rfl, HB.out⟩
  · rw [hn] at HP
    have hsz1 : w.heap.size + 1 ≤ w1.heap.size := by have := hm.below.size; simpa using this
    have hal2 : Below w1.heap.size w1 ((w1.alloc (.cells #[.string o] 9)).alloc (.cells #[.string t] 9)) := ((Below.refl _ _).alloc (Nat.le_refl _) _).alloc (by simp) _
    have HM2 : Hid (Moved B w ((w1.alloc (.cells #[.string o] 9)).alloc (.cells #[.string t] 9))) := (HM0.out.trans hm).trans (Moved.of_below hal2 (by omega))
    have hck : w1.cell? ⟨w.heap.size, 0, none⟩ = some (.func (.func g) #[] lb) := (hm.cell (by omega) (by simp) 0).trans (World.cell?_alloc_at _ _ _ _ rfl)
    have HR2 := veil (rd_below hr hal2)
    have hw2 : ∃ w2, ((w1.alloc (.cells #[.string o] 9)).alloc (.cells #[.string t] 9)) = w2 ∧ w2.cell? ⟨w.heap.size, 0, none⟩ = some (.func (.func g) #[] lb) ∧ w2.cell? ⟨w1.heap.size, 0, none⟩ = some (.string o) ∧ w2.cell? ⟨w1.heap.size + 1, 0, none⟩ = some (.string t) ∧ w2.heap.size = w1.heap.size + 2 :=
      ⟨_, rfl, (World.cell?_alloc_old _ _ _ (by simp; omega)).trans ((World.cell?_alloc_old _ _ _ (by show w.heap.size ≠ _; omega)).trans hck), (World.cell?_alloc_old _ _ _ (by simp)).trans (World.cell?_alloc_at _ _ _ _ rfl), World.cell?_alloc_at _ _ _ _ (by simp), by simp⟩
    have hos := noneOr_le ho
    have hts := ident_le hti
    have HNN := veil (text_eq o [])
    clear hm hn hr hal2 hck
    obtain ⟨w2, hwe, x0, x1, x2, hs2⟩ := hw2
    rw [hwe] at HM2 HR2
    have HX := veil (show ∀ W, Moved B w2 W → W.cell? ⟨w.heap.size, 0, none⟩ = some (.func (.func g) #[] lb) ∧ W.cell? ⟨w1.heap.size, 0, none⟩ = some (.string o) ∧ W.cell? ⟨w1.heap.size + 1, 0, none⟩ = some (.string t) from fun W h => ⟨(h.cell (by omega) (by omega) 0).trans x0, (h.cell (by omega) (by omega) 0).trans x1, (h.cell (by omega) (by omega) 0).trans x2⟩)
    go_wp2_with fail
    try rw [hwe]
    refine (sign_next B l j ⟨#[40]⟩ _ HR2.out).mono ?_
    rintro e w3 ⟨rfl, q1, q2⟩
    have HN3 := veil q2
    have HM3 := veil (HM2.out.trans q2)
    have hsz3 := q2.below.size
    obtain ⟨y0, y1, y2⟩ := HX.out w3 q2
    clear x0 x1 x2
    cases hs : sgn l j [40]
    · have hs' : sgn l j (ByteArray.mk #[40]).data.toList = false := hs
      rw [hs'] at q1
      rw [if_neg (by rw [hs]; simp)] at HP
      have HR3 : Hid (RdAt B l j w3) := q1
      try rw [hs']
      cases hoe : (o.toList == [])
      · rw [if_neg (by rw [noneB, ← HNN.out, hoe]; simp)] at HP
        have HB := veil (HBad.out _ HP.out w3 HM3.out)
        clear q1 q2 HBad HOk hwe
        go_wp2_with fail
        go_ret
        exact ⟨_, rfl, HB.out⟩
      · rw [if_pos (by rw [noneB, ← HNN.out, hoe])] at HP
        have HK := veil (HOk.out _ _ HP.out w3 (.agg #[.int .i64 3, .int .i64 0, .string ⟨#[]⟩, .string t, .slice none 0 0]) HM3.out HR3.out ⟨_, _, _, _, _, rfl, [], rfl, empty_le, hts, none_sl⟩)
        have eg := HEg.out
        clear q1 q2 HBad HOk hwe
        go_wp2_with fail
        refine HK.out.mono ?_
        rintro e w' ⟨y, rfl, hy⟩
        have HY := veil hy
        clear hy
        go_wp2_with fail
        go_ret
        exact ⟨_, rfl, HY.out⟩
    · have hs' : sgn l j (ByteArray.mk #[40]).data.toList = true := hs
      rw [hs'] at q1
      rw [if_pos hs] at HP
      have HR3 : Hid (RdAt B l (j + 1) w3) := q1
      try rw [hs']
      clear q1 q2
      go_wp2_with fail
      refine (sign_next B l (j + 1) ⟨#[41]⟩ _ HR3.out).mono ?_
      rintro e w4 ⟨rfl, q1, q2⟩
      have HN4 := veil (HN3.out.trans q2)
      have HM4 := veil (HM3.out.trans q2)
      have hsz4 := q2.below.size
      obtain ⟨z0, z1, z2⟩ := HX.out w4 HN4.out
      clear y0 y1 y2
      cases hc : sgn l (j + 1) [41]
      · have hc' : sgn l (j + 1) (ByteArray.mk #[41]).data.toList = false := hc
        rw [hc'] at q1
        rw [if_neg (by rw [hc]; simp)] at HP
        have cA := HA.out B l (j + 1) ⟨#[41]⟩ w4 156 #[.pointer (some ⟨w.heap.size, 0, none⟩), .pointer (some ⟨w1.heap.size, 0, none⟩), .pointer (some ⟨w1.heap.size + 1, 0, none⟩)] (enters_of Tryz.func156 (by kernel_rfl) rfl) R q1
          (fun e he w' hm => HBad.out e (by rw [HP.out]; rw [show pList (pEx l f) l [41] (l.length + 1) [] (j + 1) = .bad e from he]) w' (HM4.out.trans hm))
          (fun xs j' hx w' v hm hr' hv => by
            obtain ⟨va1, va2, va3, rfl⟩ := hv.slice
            obtain ⟨u0, u1, u2⟩ := HX.out w' (HN4.out.trans hm)
            refine call_back g lb HEg.out R _ _ _ o t va1 va2 va3 w' u0 u1 u2 ?_
            exact HOk.out (exCall o t xs) j' (by rw [HP.out]; rw [show pList (pEx l f) l [41] (l.length + 1) [] (j + 1) = .ok xs j' from hx]) w' _ (HM4.out.trans hm) hr' ⟨_, _, _, _, _, rfl, xs, rfl, hos, hts, exSl_keep ⟨fun _ _ => rfl, fun _ hb => ⟨by have := hb.1; omega, hb.2⟩⟩ hv⟩)
        have HCA := veil cA
        try rw [hc']
        clear q1 q2 HBad HOk cA hwe
        go_wp2_with fail
        refine HCA.out.mono ?_
        rintro e w' ⟨y, rfl, hy⟩
        have HY := veil hy
        clear hy
        go_wp2_with fail
        go_ret
        exact ⟨_, rfl, HY.out⟩
      · have hc' : sgn l (j + 1) (ByteArray.mk #[41]).data.toList = true := hc
        rw [hc'] at q1
        rw [if_pos hc] at HP
        have HCA := veil (call_back g lb HEg.out R _ _ _ o t none 0 0 w4 z0 z1 z2 (HOk.out _ _ HP.out w4 _ HM4.out q1 ⟨_, _, _, _, _, rfl, [], rfl, hos, hts, none_sl⟩))
        have ec := enters_of (P := Tryz.prog) Tryz.func156 (by kernel_rfl) rfl
        try rw [hc']
        clear q1 q2 HBad HOk hwe
        go_wp2_with fail
        refine HCA.out.mono ?_
        rintro e w' ⟨y, rfl, hy⟩
        have HY := veil hy
        clear hy
        go_wp2_with fail
        go_ret
        exact ⟨_, rfl, HY.out⟩

end Go.Proofs.YtieoddnaknpmlabGreatDoor

/- What the reader's something answers, at every reader and every way back, where expr, args and paramOrCall read as they should: what may have places behind it, handed to the way back; or what is wrong first. -/
namespace Go.Proofs.YtieoddnaknpmlabGreatDoor
open Go.RowKit
set_option maxRecDepth 100000

theorem decFrom_num : ∀ (l : List UInt8) (acc : Nat), (∀ b ∈ l, 48 ≤ b.toNat ∧ b.toNat ≤ 57) → ∃ m : Nat, Lib.decFrom acc l = some m ∧ (m : Int) = l.foldl (fun n c => 10 * n + ((c.toNat : Int) - 48)) (acc : Int)
  | [], acc, _ => ⟨acc, rfl, rfl⟩
  | b :: r, acc, h => by
    have hb := h b (by simp)
    obtain ⟨m, h1, h2⟩ := decFrom_num r (acc * 10 + (b.toNat - 48)) (fun c hc => h c (by simp [hc]))
    refine ⟨m, ?_, ?_⟩
    · rw [Lib.decFrom, Lib.digitVal, if_pos hb]
      exact h1
    · rw [h2, List.foldl_cons]
      congr 1
      omega

theorem num_bytes {t : ByteArray} (h : numOk t = true) : (∀ b ∈ t.data.toList, 48 ≤ b.toNat ∧ b.toNat ≤ 57) ∧ 1 ≤ t.size ∧ t.size ≤ 6 := by
  unfold numOk at h
  simp only [Bool.and_eq_true] at h
  have hs : 1 ≤ t.size ∧ t.size ≤ 6 := by
    have := h.2.1
    simp [isIn] at this
    omega
  refine ⟨fun b hb => ?_, hs⟩
  obtain ⟨j, hj, rfl⟩ := List.mem_iff_getElem.1 hb
  have hd := (allB_iff _ _).1 h.1 j hj
  have hd' := digit_bd hd
  unfold byteAt at hd'
  rw [List.getD_eq_getElem?_getD, List.getElem?_eq_getElem hj, Option.getD_some] at hd'
  omega

theorem atoi_num {t : ByteArray} (h : numOk t = true) : Lib.atoi t.data.toList = some (numVal t.data.toList) := by
  obtain ⟨hb, h1, _⟩ := num_bytes h
  have hl : t.data.toList.length = t.size := rfl
  cases e : t.data.toList with
  | nil => rw [e] at hl; simp at hl; omega
  | cons b r =>
    rw [e] at hb
    have hb0 := hb b (by simp)
    obtain ⟨m, q1, q2⟩ := decFrom_num (b :: r) 0 hb
    have n1 : (b == 45) = false := by
      rw [beq_eq_false_iff_ne]; rintro rfl; simp at hb0
    have n2 : (b == 43) = false := by
      rw [beq_eq_false_iff_ne]; rintro rfl; simp at hb0
    rw [Lib.atoi, n1, n2]
    simp only [Bool.false_eq_true, if_false, Lib.decNat, List.isEmpty_cons, q1, Option.map_some, numVal]
    rw [q2]
    rfl

theorem below_bytes (w : World) (e : TypeId) (t : ByteArray) : Below w.heap.size w (Lib.bytesWorld w e t) :=
  Lib.below_freeze ((Below.refl w.heap.size w).drew.alloc (Nat.le_refl _) _) (p := ⟨w.heap.size, _, none⟩) (Nat.le_refl _) _

set_option maxHeartbeats 1000000 in
theorem paren_back (B : Nat) (l : Toks) (j n : Nat) (x : Ex) (k nu : Int) (f s : ByteArray) (va : Value) (W : World) (g : Nat) (lb : Array Value) (br bk : Nat) (eg : ∀ args w, (callFunc g args).run Tryz.prog w = .ok (.enter g args) w) (R : Int → World → Prop)
    (hr : RdAt B l j W) (hBn : B < n) (hbr : W.cell? ⟨br, 0, none⟩ = some (.pointer (some ⟨B, 0, none⟩))) (hbk : W.cell? ⟨bk, 0, none⟩ = some (.func (.func g) #[] lb)) (hbkB : B < bk) (ht : ExCs (Fresh n W) W x k nu f s va)
    (hbad : sgn l j [41] = false → ∀ w', Moved B W w' → R 4 w')
    (hok : sgn l j [41] = true → ∀ w' v, Moved B W w' → RdAt B l (j + 1) w' → ExIs (Fresh n w') w' x v → Calls Tryz.prog g (#[v] ++ lb) w' (Ends R)) :
    Calls Tryz.prog 142 #[.agg #[.int .i64 k, .int .i64 nu, .string f, .string s, va], .pointer (some ⟨br, 0, none⟩), .pointer (some ⟨bk, 0, none⟩)] W (Ends R) := by
  obtain ⟨va1, va2, va3, rfl⟩ := ht.slice
  have hlt := rd_lt hr
  have hbrW := World.block_lt_of_cell? W _ hbr
  have hbkW := World.block_lt_of_cell? W _ hbk
  have hne1 : br < W.heap.size := hbrW
  have hal : Below W.heap.size W (W.alloc (.cells #[.int .i64 k, .int .i64 nu, .string f, .string s, .slice va1 va2 va3] 52)) := (Below.refl _ _).alloc (Nat.le_refl _) _
  have HA : Hid (Moved B W (W.alloc (.cells #[.int .i64 k, .int .i64 nu, .string f, .string s, .slice va1 va2 va3] 52))) := Moved.of_below hal (by omega)
  have HR := veil (rd_below hr hal)
  have HBad := veil hbad
  have HOk := veil hok
  have HT := veil ht
  clear hbad hok ht hr hal
  go_enter Tryz.func142, Tryz.ntmps142
  go_wp2_with fail
  refine (sign_next B l j ⟨#[41]⟩ _ HR.out).mono ?_
  rintro e w1 ⟨rfl, q1, q2⟩
  have hm1 := HA.out.trans q2
  have b0 : w1.cell? ⟨W.heap.size, 0, none⟩ = some (.int .i64 k) := (q2.cell (by omega) (by simp) 0).trans (World.cell?_alloc_at _ _ _ _ rfl)
  have b1 : w1.cell? ⟨W.heap.size, 1, none⟩ = some (.int .i64 nu) := (q2.cell (by omega) (by simp) 1).trans (World.cell?_alloc_at _ _ _ _ rfl)
  have b2 : w1.cell? ⟨W.heap.size, 2, none⟩ = some (.string f) := (q2.cell (by omega) (by simp) 2).trans (World.cell?_alloc_at _ _ _ _ rfl)
  have b3 : w1.cell? ⟨W.heap.size, 3, none⟩ = some (.string s) := (q2.cell (by omega) (by simp) 3).trans (World.cell?_alloc_at _ _ _ _ rfl)
  have b4 : w1.cell? ⟨W.heap.size, 4, none⟩ = some (.slice va1 va2 va3) := (q2.cell (by omega) (by simp) 4).trans (World.cell?_alloc_at _ _ _ _ rfl)
  have hk1 : w1.cell? ⟨bk, 0, none⟩ = some (.func (.func g) #[] lb) := (hm1.cell hbkB hbkW 0).trans hbk
  cases hs : sgn l j [41]
  · have hs' : sgn l j (ByteArray.mk #[41]).data.toList = false := hs
    have HB := veil (HBad.out hs w1 hm1)
    try rw [hs']
    clear q1 q2 hm1 HOk HBad
    go_wp2_with fail
    go_ret
    exact ⟨_, rfl, HB.out⟩
  · have hs' : sgn l j (ByteArray.mk #[41]).data.toList = true := hs
    rw [hs'] at q1
    have HK := veil (HOk.out hs w1 _ hm1 q1 ⟨_, _, _, _, _, rfl, HT.out.keep (fresh_keeps hBn hm1)⟩)
    try rw [hs']
    clear q1 q2 hm1 HOk HBad HT
    go_wp2_with fail
    refine HK.out.mono ?_
    rintro e w' ⟨y, rfl, hy⟩
    have HY := veil hy
    clear hy
    go_wp2_with fail
    go_ret
    exact ⟨_, rfl, HY.out⟩

theorem items_back (g : Nat) (lb : Array Value) (eg : ∀ args w, (callFunc g args).run Tryz.prog w = .ok (.enter g args) w) (R : Int → World → Prop) (bk : Nat) (va1 : Option Addr) (va2 va3 : Nat) (W : World)
    (hk : W.cell? ⟨bk, 0, none⟩ = some (.func (.func g) #[] lb)) (h : Calls Tryz.prog g (#[.agg #[.int .i64 6, .int .i64 0, .string ⟨#[]⟩, .string ⟨#[]⟩, .slice va1 va2 va3]] ++ lb) W (Ends R)) :
    Calls Tryz.prog 144 #[.slice va1 va2 va3, .pointer (some ⟨bk, 0, none⟩)] W (Ends R) := by
  have HK := veil h
  clear h
  go_enter Tryz.func144, Tryz.ntmps144
  go_wp2_with fail
  refine HK.out.mono ?_
  rintro e w' ⟨y, rfl, hy⟩
  have HY := veil hy
  clear hy
  go_wp2_with fail
  go_ret
  exact ⟨_, rfl, HY.out⟩

set_option maxHeartbeats 8000000 in
theorem head_next (f d : Nat) (hd1 : d < 100) (hE : ExprReads f (d + 1)) (hA : ArgsReads f d) (hC : CallReads f d) : HeadReads f d := by
  intro B l i w g lb eg R hr hbad hok
  have hlt := rd_lt hr
  have hal : Below w.heap.size w ((w.alloc (.cells #[.pointer (some ⟨B, 0, none⟩)] 76)).alloc (.cells #[.func (.func g) #[] lb] 128)) := ((Below.refl _ _).alloc (Nat.le_refl _) _).alloc (by simp) _
  have HM0 : Hid (Moved B w ((w.alloc (.cells #[.pointer (some ⟨B, 0, none⟩)] 76)).alloc (.cells #[.func (.func g) #[] lb] 128))) := Moved.of_below hal (by omega)
  have HR0 := veil (rd_below hr hal)
  have HNum : Hid (∀ j t, takeAt l j 2 = some t → numOk t = true) := fun j t ht => rd_num hr ht
  have hcr : ((w.alloc (.cells #[.pointer (some ⟨B, 0, none⟩)] 76)).alloc (.cells #[.func (.func g) #[] lb] 128)).cell? ⟨w.heap.size, 0, none⟩ = some (.pointer (some ⟨B, 0, none⟩)) := (World.cell?_alloc_old _ _ _ (by simp)).trans (World.cell?_alloc_at _ _ _ _ rfl)
  have hck : ((w.alloc (.cells #[.pointer (some ⟨B, 0, none⟩)] 76)).alloc (.cells #[.func (.func g) #[] lb] 128)).cell? ⟨w.heap.size + 1, 0, none⟩ = some (.func (.func g) #[] lb) := World.cell?_alloc_at _ _ _ _ (by simp)
  have HKeep := veil (show ∀ W, Moved B ((w.alloc (.cells #[.pointer (some ⟨B, 0, none⟩)] 76)).alloc (.cells #[.func (.func g) #[] lb] 128)) W → W.cell? ⟨w.heap.size, 0, none⟩ = some (.pointer (some ⟨B, 0, none⟩)) ∧ W.cell? ⟨w.heap.size + 1, 0, none⟩ = some (.func (.func g) #[] lb) from fun W h2 =>
    ⟨(h2.cell (by omega) (by simp; omega) 0).trans hcr, (h2.cell (by omega) (by simp) 0).trans hck⟩)
  have HBad := veil hbad
  have HOk := veil hok
  have HEg := veil eg
  have HE := veil hE
  have HA := veil hA
  have HC := veil hC
  have hef := makeFunc_run
  have HP : Hid (pHead (pEx l f) l i = if sgn l i [40] = true then (match pEx l f (i + 1) with
      | .bad e => .bad e
      | .ok x j => if sgn l j [41] = true then .ok x (j + 1) else .bad 4)
    else if sgn l i [91] = true then (match pList (pEx l f) l [93] (l.length + 1) [] (i + 1) with
      | .bad e => .bad e
      | .ok xs j => .ok (exItems xs) j)
    else match takeAt l i 2 with
      | some t => .ok (exNum t) (i + 1)
      | none => match takeAt l i 3 with
        | some t => .ok (exQuote t) (i + 1)
        | none => pCall (pEx l f) l i) := by show _ = _; unfold pHead; rfl
  clear hbad hok hr hal eg hE hA hC hcr hck
  go_enter Tryz.func136, Tryz.ntmps136
  go_wp2_with fail
  refine (sign_next B l i ⟨#[40]⟩ _ HR0.out).mono ?_
  rintro e w1 ⟨rfl, q1, q2⟩
  have HN1 := veil q2
  have HM1 := veil (HM0.out.trans q2)
  have hsz1 : w.heap.size + 2 ≤ w1.heap.size := by have := q2.below.size; simpa using this
  obtain ⟨k1, k2⟩ := HKeep.out w1 q2
  cases hs1 : sgn l i [40]
  case true =>
    have hs' : sgn l i (ByteArray.mk #[40]).data.toList = true := hs1
    rw [hs'] at q1
    rw [if_pos hs1] at HP
    have en : ((d + 1 : Nat) : Int) = (d : Int) + 1 := by omega
    have cI := HE.out B l (i + 1) w1 142 #[.pointer (some ⟨w.heap.size, 0, none⟩), .pointer (some ⟨w.heap.size + 1, 0, none⟩)] (enters_of Tryz.func142 (by kernel_rfl) rfl) R q1
      (fun e he w' hm => HBad.out e (by rw [HP.out, he]) w' (HM1.out.trans hm))
      (fun x j hx w' v hm hr' hv => by
        obtain ⟨u1, u2⟩ := HKeep.out w' (HN1.out.trans hm)
        obtain ⟨ke, ne, fe, se, ve, rfl, hce⟩ := ex_wider (n := w.heap.size) (by omega) hv
        exact paren_back B l j w.heap.size x ke ne fe se ve w' g lb _ _ HEg.out R hr' hlt u1 u2 (by omega) hce
          (fun h4 w'' hm' => HBad.out 4 (by rw [HP.out, hx]; simp [h4]) w'' ((HM1.out.trans hm).trans hm'))
          (fun h4 w'' v' hm' hr'' hv' => HOk.out x (j + 1) (by rw [HP.out, hx]; simp [h4]) w'' v' ((HM1.out.trans hm).trans hm') hr'' hv'))
    rw [en] at cI
    have HK := veil cI
    try rw [hs']
    clear q1 q2 cI HBad HOk
    go_wp2_with fail
    refine HK.out.mono ?_
    rintro e w' ⟨y, rfl, hy⟩
    have HY := veil hy
    clear hy
    go_wp2_with fail
    go_ret
    exact ⟨_, rfl, HY.out⟩
  have hs1' : sgn l i (ByteArray.mk #[40]).data.toList = false := hs1
  rw [hs1'] at q1
  rw [if_neg (by rw [hs1]; simp)] at HP
  have HR1 : Hid (RdAt B l i w1) := q1
  try rw [hs1']
  clear q1 q2
  go_wp2_with fail
  refine (sign_next B l i ⟨#[91]⟩ _ HR1.out).mono ?_
  rintro e w2 ⟨rfl, q1, q2⟩
  have HN2 := veil (HN1.out.trans q2)
  have HM2 := veil (HM1.out.trans q2)
  have hsz2 : w.heap.size + 2 ≤ w2.heap.size := by have := q2.below.size; omega
  obtain ⟨k3, k4⟩ := HKeep.out w2 HN2.out
  clear k1 k2
  cases hs2 : sgn l i [91]
  case true =>
    have hs' : sgn l i (ByteArray.mk #[91]).data.toList = true := hs2
    rw [hs'] at q1
    rw [if_pos hs2] at HP
    have HK := veil (HA.out B l (i + 1) ⟨#[93]⟩ w2 144 #[.pointer (some ⟨w.heap.size + 1, 0, none⟩)] (enters_of Tryz.func144 (by kernel_rfl) rfl) R q1
      (fun e he w' hm => HBad.out e (by rw [HP.out]; rw [show pList (pEx l f) l [93] (l.length + 1) [] (i + 1) = .bad e from he]) w' (HM2.out.trans hm))
      (fun xs j hx w' v hm hr' hv => by
        obtain ⟨va1, va2, va3, rfl⟩ := hv.slice
        obtain ⟨u1, u2⟩ := HKeep.out w' (HN2.out.trans hm)
        refine items_back g lb HEg.out R _ va1 va2 va3 w' u2 ?_
        exact HOk.out (exItems xs) j (by rw [HP.out]; rw [show pList (pEx l f) l [93] (l.length + 1) [] (i + 1) = .ok xs j from hx]) w' _ (HM2.out.trans hm) hr' ⟨_, _, _, _, _, rfl, xs, rfl, empty_le, empty_le, exSl_keep ⟨fun _ _ => rfl, fun _ hb => ⟨by have := hb.1; omega, hb.2⟩⟩ hv⟩))
    try rw [hs']
    clear q1 q2 HBad HOk
    go_wp2_with fail
    refine HK.out.mono ?_
    rintro e w' ⟨y, rfl, hy⟩
    have HY := veil hy
    clear hy
    go_wp2_with fail
    go_ret
    exact ⟨_, rfl, HY.out⟩
  have hs2' : sgn l i (ByteArray.mk #[91]).data.toList = false := hs2
  rw [hs2'] at q1
  rw [if_neg (by rw [hs2]; simp)] at HP
  have HR2 : Hid (RdAt B l i w2) := q1
  try rw [hs2']
  clear q1 q2
  go_wp2_with fail
  refine (take_any B l i 2 _ HR2.out).mono ?_
  rintro e w3 ⟨hm, ⟨ht, rfl, hr⟩ | ⟨t, ht, hsz, rfl, hr⟩⟩
  rotate_left
  · rw [ht] at HP
    have hnum := HNum.out i t ht
    obtain ⟨_, hn1, hn6⟩ := num_bytes hnum
    have HAt := veil (atoi_num hnum)
    have HN3 := veil (HN2.out.trans hm)
    have HM3 := veil (HM2.out.trans hm)
    have HR3 := veil hr
    have hlt3 := rd_lt hr
    clear hm hr ht hnum
    go_wp2_with fail
    refine (Tryz.strconv_Atoi t (numVal t.data.toList) (by omega) HAt.out _).mono ?_
    rintro e w4 ⟨rfl, t', rfl⟩
    have hb4 := below_bytes w3 5 t'
    have hm4 : Moved B w3 (Lib.bytesWorld w3 5 t') := Moved.of_below hb4 (by omega)
    obtain ⟨u1, u2⟩ := HKeep.out _ (HN3.out.trans hm4)
    have HK := veil (HOk.out _ _ HP.out (Lib.bytesWorld w3 5 t') (.agg #[.int .i64 1, .int .i64 (numVal t.data.toList), .string ⟨#[]⟩, .string ⟨#[]⟩, .slice none 0 0]) (HM3.out.trans hm4) (rd_below HR3.out hb4) ⟨_, _, _, _, _, rfl, [], rfl, empty_le, empty_le, none_sl⟩)
    have eg := HEg.out
    clear hm4 hb4 HBad HOk
    generalize Lib.bytesWorld w3 5 t' = w4 at *
    go_wp2_with fail
    refine HK.out.mono ?_
    rintro e w' ⟨y, rfl, hy⟩
    have HY := veil hy
    clear hy
    go_wp2_with fail
    go_ret
    exact ⟨_, rfl, HY.out⟩
  rw [ht] at HP
  have HN3 := veil (HN2.out.trans hm)
  have HM3 := veil (HM2.out.trans hm)
  have HR3 := veil hr
  obtain ⟨k5, k6⟩ := HKeep.out w3 HN3.out
  clear hm hr ht k3 k4
  go_wp2_with fail
  refine (take_any B l i 3 _ HR3.out).mono ?_
  rintro e w4 ⟨hm, ⟨ht, rfl, hr⟩ | ⟨t, ht, hsz, rfl, hr⟩⟩
  rotate_left
  · rw [ht] at HP
    have HM4 := veil (HM3.out.trans hm)
    obtain ⟨u1, u2⟩ := HKeep.out w4 (HN3.out.trans hm)
    have HK := veil (HOk.out _ _ HP.out w4 (.agg #[.int .i64 2, .int .i64 0, .string ⟨#[]⟩, .string t, .slice none 0 0]) HM4.out hr ⟨_, _, _, _, _, rfl, [], rfl, empty_le, hsz, none_sl⟩)
    have eg := HEg.out
    clear hm hr ht HBad HOk
    go_wp2_with fail
    refine HK.out.mono ?_
    rintro e w' ⟨y, rfl, hy⟩
    have HY := veil hy
    clear hy
    go_wp2_with fail
    go_ret
    exact ⟨_, rfl, HY.out⟩
  rw [ht] at HP
  have HM4 := veil (HM3.out.trans hm)
  obtain ⟨u1, u2⟩ := HKeep.out w4 (HN3.out.trans hm)
  have hsz4 : w.heap.size ≤ w4.heap.size := HM4.out.below.size
  have HK := veil (HC.out B l i w4 g lb HEg.out R hr (fun e he w' hm' => HBad.out e (HP.out.trans he) w' (HM4.out.trans hm')) (fun x j hx w' v hm' hr' hv => HOk.out x j (HP.out.trans hx) w' v (HM4.out.trans hm') hr' (ex_wider hsz4 hv)))
  clear hm hr ht HBad HOk k5 k6
  go_wp2_with fail
  refine HK.out.mono ?_
  rintro e w' ⟨y, rfl, hy⟩
  have HY := veil hy
  clear hy
  go_wp2_with fail
  go_ret
  exact ⟨_, rfl, HY.out⟩

end Go.Proofs.YtieoddnaknpmlabGreatDoor

/- What the reader's args answers, at every reader and every way back: the list that is next, handed to the way back; or what is wrong first. So the reading of expressions: what is next, whatever stands within. -/
namespace Go.Proofs.YtieoddnaknpmlabGreatDoor
open Go.RowKit
set_option maxRecDepth 100000

theorem rd_le {B : Nat} {l : Toks} {i : Nat} {w : World} (h : RdAt B l i w) : i ≤ l.length := by obtain ⟨_, _, _, h⟩ := h; exact h
theorem rd_200 {B : Nat} {l : Toks} {i : Nat} {w : World} (h : RdAt B l i w) : l.length ≤ 200 := by obtain ⟨_, _, ⟨⟨h, _⟩, _⟩, _⟩ := h; exact h

theorem ListOf.wider {α : Type} {C : (Nat → Prop) → World → α → List Value → Prop} {T Tl : TypeId} {base bl n1 n2 : Nat} {xs : List α} {la : Option Addr} {cap : Nat} {ys : List Value} {W : World} (h : ListOf C T Tl base bl n1 xs la cap ys W) (hn : n1 ≤ n2) : ListOf C T Tl base bl n2 xs la cap ys W :=
  ⟨h.box, h.own, fun g hg => Nat.lt_of_lt_of_le (h.old g hg) hn, h.items⟩

theorem exL_moved {B base bl n1 : Nat} {xs : List Ex} {la : Option Addr} {cap : Nat} {ys : List Value} {W W' : World} (h : ListOf ExC 52 50 base bl n1 xs la cap ys W) (hm : Moved B W W') (hB : B < bl) (hbl : bl < base) : ListOf ExC 52 50 base bl n1 xs la cap ys W' :=
  ListOf.moved (C := ExC) (fun hk h => exC_keep hk h) h hm hB hbl

theorem exL_push {base bl n1 : Nat} {xs : List Ex} {x : Ex} {la : Option Addr} {cap g cap' : Nat} {ys : List Value} {W W' : World} {k n : Int} {f s : ByteArray} {va1 : Option Addr} {va2 va3 : Nat} (h : ListOf ExC 52 50 base bl n1 xs la cap ys W) (hbl : bl < base) (hn1 : base ≤ n1) (hcs : ExCs (Fresh n1 W) W x k n f s (.slice va1 va2 va3))
    (hg : Grew base bl 52 50 (.slice la xs.length cap) (.slice (some ⟨g, 0, none⟩) (xs.length + 1) cap') (xs.length + 1) (ys ++ [.int .i64 k, .int .i64 n, .string f, .string s, .slice va1 va2 va3]) W W') :
    ListOf ExC 52 50 base bl W'.heap.size (xs ++ [x]) (some ⟨g, 0, none⟩) cap' (ys ++ [.int .i64 k, .int .i64 n, .string f, .string s, .slice va1 va2 va3]) W' :=
  ListOf.push (C := ExC) (fun hk h => exC_keep hk h) h hbl hn1 rfl ⟨_, _, _, _, _, _, _, rfl, hcs⟩ hg

theorem exL_sl {base bl n1 n0 : Nat} {xs : List Ex} {la : Option Addr} {cap : Nat} {ys : List Value} {W : World} (h : ListOf ExC 52 50 base bl n1 xs la cap ys W) (hn0 : n0 ≤ base) (hmax : xs.length ≤ maxLen) : SlAt (Fresh n0 W) (ExAt (Fresh n0 W) W) 5 xs (.slice la xs.length cap) :=
  ListOf.toSl (C := ExC) (P := ExAt) (fun hk h => exC_keep hk h) (fun h1 h2 h3 => exC_at h1 h2 h3) h hn0 hmax

set_option maxHeartbeats 8000000 in
theorem next_go (f : Nat) (B : Nat) (l : Toks) (fin : ByteArray) (w0 Wb : World) (base bl br bo bn be bk g1 g : Nat) (lb1 lb : Array Value) (e1 : ∀ args w, (callFunc g1 args).run Tryz.prog w = .ok (.enter g1 args) w) (eg : ∀ args w, (callFunc g args).run Tryz.prog w = .ok (.enter g args) w) (R : Int → World → Prop)
    (hw0 : Moved B w0 Wb) (hBl : B < bl) (h0l : w0.heap.size ≤ bl) (hbl : bl < base)
    (xr : LBox B bl base br (.pointer (some ⟨B, 0, none⟩)) Wb) (xo : LBox B bl base bo (.func (.func g1) #[] lb1) Wb)
    (xn : LBox B bl base bn (.func (.func 162) #[] #[.pointer (some ⟨bl, 0, none⟩), .pointer (some ⟨br, 0, none⟩), .pointer (some ⟨bo, 0, none⟩), .pointer (some ⟨bn, 0, none⟩), .pointer (some ⟨be, 0, none⟩), .pointer (some ⟨bk, 0, none⟩)]) Wb)
    (xe : LBox B bl base be (.string fin) Wb) (xk : LBox B bl base bk (.func (.func g) #[] lb) Wb)
    (hOne : ∀ (i : Nat) (W : World), RdAt B l i W → Kept B bl base Wb W → ∀ (g' : Nat) (lb' : Array Value), (∀ args w, (callFunc g' args).run Tryz.prog w = .ok (.enter g' args) w) →
      (∀ e, pEx l f i = .bad e → ∀ w', Moved B W w' → R e w') →
      (∀ x j, pEx l f i = .ok x j → ∀ w' v, Moved B W w' → RdAt B l j w' → ExIs (Fresh W.heap.size w') w' x v → Calls Tryz.prog g' (#[v] ++ lb') w' (Ends R)) →
      Calls Tryz.prog g1 (#[.func (.func g') #[] lb'] ++ lb1) W (Ends R)) :
    ∀ (N i : Nat) (x : Ex) (v : Value) (n1 : Nat) (xs : List Ex) (la : Option Addr) (lcap : Nat) (ys : List Value) (W : World), l.length ≤ i + N → xs.length ≤ i → RdAt B l i W → Kept B bl base Wb W → base ≤ n1 → n1 ≤ W.heap.size →
      ListOf ExC 52 50 base bl n1 xs la lcap ys W → ExIs (Fresh n1 W) W x v →
      (∀ e, nextRes (pEx l f) l fin.data.toList N xs x i = .bad e → ∀ w', Moved B w0 w' → R e w') →
      (∀ zs j, nextRes (pEx l f) l fin.data.toList N xs x i = .ok zs j → ∀ w' v', Moved B w0 w' → RdAt B l j w' → SlAt (Fresh w0.heap.size w') (ExAt (Fresh w0.heap.size w') w') 5 zs v' → Calls Tryz.prog g (#[v'] ++ lb) w' (Ends R)) →
      Calls Tryz.prog 162 #[v, .pointer (some ⟨bl, 0, none⟩), .pointer (some ⟨br, 0, none⟩), .pointer (some ⟨bo, 0, none⟩), .pointer (some ⟨bn, 0, none⟩), .pointer (some ⟨be, 0, none⟩), .pointer (some ⟨bk, 0, none⟩)] W (Ends R) := by
  intro N
  induction N with
  | zero =>
    intro i x v n1 xs la lcap ys W hN hxi hr hk hn1 hn1W hL hx hbad hok
    obtain ⟨k, nu, fo, s, va, rfl, hcs⟩ := hx
    obtain ⟨va1, va2, va3, rfl⟩ := hcs.slice
    have hil := rd_le hr
    have h200 := rd_200 hr
    have hm63 : (xs.length + 1 : Nat) ≤ maxLen := by unfold maxLen; omega
    refine next_step bl br bo bn be bk base la lcap xs.length ys k nu fo s va1 va2 va3 W B l i fin g1 g lb1 lb e1 eg R Wb _ hL.box hL.own hk.room hbl hm63 (by omega) hBl hr hk xr xo xn xe xk ?_ ?_ ?_
    · intro hc
      have := sgn_lt hc
      omega
    · intro hc hf g' cap' w w' hG hm hr'
      have hk' := (hk.grew hG hL.own hBl hbl).moved hm
      have hL' := exL_moved (exL_push hL hbl hn1 hcs hG) hm hBl hbl
      have hS := exL_sl (n0 := w0.heap.size) hL' (by omega) (by simp; omega)
      have hlen : (xs ++ [x]).length = xs.length + 1 := by simp
      rw [hlen] at hS
      exact hok (xs ++ [x]) (i + 1) (by unfold nextRes; rw [if_neg (by rw [hc]; simp), if_pos hf]) w' _ (hk'.toMoved hw0 h0l hbl) hr' hS
    · intro hc hf g' cap' w w' hG hm
      exact hbad 4 (by unfold nextRes; rw [if_neg (by rw [hc]; simp), if_neg (by rw [hf]; simp)]) w' (((hk.grew hG hL.own hBl hbl).moved hm).toMoved hw0 h0l hbl)
  | succ N ih =>
    intro i x v n1 xs la lcap ys W hN hxi hr hk hn1 hn1W hL hx hbad hok
    obtain ⟨k, nu, fo, s, va, rfl, hcs⟩ := hx
    obtain ⟨va1, va2, va3, rfl⟩ := hcs.slice
    have hil := rd_le hr
    have h200 := rd_200 hr
    have hm63 : (xs.length + 1 : Nat) ≤ maxLen := by unfold maxLen; omega
    refine next_step bl br bo bn be bk base la lcap xs.length ys k nu fo s va1 va2 va3 W B l i fin g1 g lb1 lb e1 eg R Wb _ hL.box hL.own hk.room hbl hm63 (by omega) hBl hr hk xr xo xn xe xk ?_ ?_ ?_
    · intro hc g' cap' w w' hG hm hr'
      have hk' := (hk.grew hG hL.own hBl hbl).moved hm
      have hL' := exL_moved (exL_push hL hbl hn1 hcs hG) hm hBl hbl
      have hP : nextRes (pEx l f) l fin.data.toList (N + 1) xs x i = pList (pEx l f) l fin.data.toList (N + 1) (xs ++ [x]) (i + 1) := if_pos hc
      refine hOne (i + 1) w' hr' hk' 162 _ (enters_of Tryz.func162 (by kernel_rfl) rfl) ?_ ?_
      · intro e he w'' hm''
        exact hbad e (by rw [hP, pList_bad he]) w'' ((hk'.moved hm'').toMoved hw0 h0l hbl)
      · intro y j hy w'' v hm'' hr'' hv
        have hadv := pEx_adv f _ _ _ hy
        exact ih j y v w'.heap.size (xs ++ [x]) _ _ _ w'' (by omega) (by simp; omega) hr'' (hk'.moved hm'') hk'.room hm''.below.size (exL_moved (hL'.wider hm.below.size) hm'' hBl hbl) hv
          (fun e he w3 hm3 => hbad e (by rw [hP, pList_ok hy]; exact he) w3 hm3)
          (fun zs j' hz w3 v3 hm3 hr3 hv3 => hok zs j' (by rw [hP, pList_ok hy]; exact hz) w3 v3 hm3 hr3 hv3)
    · intro hc hf g' cap' w w' hG hm hr'
      have hk' := (hk.grew hG hL.own hBl hbl).moved hm
      have hL' := exL_moved (exL_push hL hbl hn1 hcs hG) hm hBl hbl
      have hS := exL_sl (n0 := w0.heap.size) hL' (by omega) (by simp; omega)
      have hlen : (xs ++ [x]).length = xs.length + 1 := by simp
      rw [hlen] at hS
      exact hok (xs ++ [x]) (i + 1) (by unfold nextRes; rw [if_neg (by rw [hc]; simp), if_pos hf]) w' _ (hk'.toMoved hw0 h0l hbl) hr' hS
    · intro hc hf g' cap' w w' hG hm
      exact hbad 4 (by unfold nextRes; rw [if_neg (by rw [hc]; simp), if_neg (by rw [hf]; simp)]) w' (((hk.grew hG hL.own hBl hbl).moved hm).toMoved hw0 h0l hbl)

theorem one_next (f d : Nat) (hd : d < 100) (hE : ExprReads f (d + 1)) (B : Nat) (l : Toks) (i : Nat) (W : World) (br bd : Nat) (g : Nat) (lb : Array Value) (eg : ∀ args w, (callFunc g args).run Tryz.prog w = .ok (.enter g args) w) (R : Int → World → Prop) (hr : RdAt B l i W)
    (cr : W.cell? ⟨br, 0, none⟩ = some (.pointer (some ⟨B, 0, none⟩))) (cd : W.cell? ⟨bd, 0, none⟩ = some (.int .i64 d))
    (hbad : ∀ e, pEx l f i = .bad e → ∀ w', Moved B W w' → R e w')
    (hok : ∀ x j, pEx l f i = .ok x j → ∀ w' v, Moved B W w' → RdAt B l j w' → ExIs (Fresh W.heap.size w') w' x v → Calls Tryz.prog g (#[v] ++ lb) w' (Ends R)) :
    Calls Tryz.prog 152 #[.func (.func g) #[] lb, .pointer (some ⟨br, 0, none⟩), .pointer (some ⟨bd, 0, none⟩)] W (Ends R) := by
  have HE := veil (hE B l i W g lb eg R hr hbad hok)
  have en : ((d + 1 : Nat) : Int) = (d : Int) + 1 := by omega
  rw [en] at HE
  have hd' : (d : Int) < 100 := by omega
  clear hbad hok hr eg hE en hd
  go_enter Tryz.func152, Tryz.ntmps152
  go_wp2_with fail
  refine HE.out.mono ?_
  rintro e w' ⟨y, rfl, hy⟩
  have HY := veil hy
  clear hy
  go_wp2_with fail
  go_ret
  exact ⟨_, rfl, HY.out⟩

theorem six_new (w : World) (o0 o1 o2 o3 o4 o5 : Obj) : ∃ W, ((((((w.alloc o0).alloc o1).alloc o2).alloc o3).alloc o4).alloc o5) = W ∧ W.heap.size = w.heap.size + 6 ∧ W.heap[w.heap.size]? = some o0 ∧ W.heap[w.heap.size + 1]? = some o1 ∧ W.heap[w.heap.size + 2]? = some o2 ∧
    W.heap[w.heap.size + 3]? = some o3 ∧ W.heap[w.heap.size + 4]? = some o4 ∧ W.heap[w.heap.size + 5]? = some o5 ∧ Below w.heap.size w W := by
  have n0 : (w.alloc o0).heap.size = w.heap.size + 1 := by simp
  have n1 : ((w.alloc o0).alloc o1).heap.size = w.heap.size + 2 := by simp
  have n2 : (((w.alloc o0).alloc o1).alloc o2).heap.size = w.heap.size + 3 := by simp
  have n3 : ((((w.alloc o0).alloc o1).alloc o2).alloc o3).heap.size = w.heap.size + 4 := by simp
  have n4 : (((((w.alloc o0).alloc o1).alloc o2).alloc o3).alloc o4).heap.size = w.heap.size + 5 := by simp
  have a0 := heap_alloc_new w o0
  have a1 := heap_alloc_new (w.alloc o0) o1
  have a2 := heap_alloc_new ((w.alloc o0).alloc o1) o2
  have a3 := heap_alloc_new (((w.alloc o0).alloc o1).alloc o2) o3
  have a4 := heap_alloc_new ((((w.alloc o0).alloc o1).alloc o2).alloc o3) o4
  have a5 := heap_alloc_new (((((w.alloc o0).alloc o1).alloc o2).alloc o3).alloc o4) o5
  rw [n0] at a1
  rw [n1] at a2
  rw [n2] at a3
  rw [n3] at a4
  rw [n4] at a5
  refine ⟨_, rfl, by simp, ?_, ?_, ?_, ?_, ?_, a5, ?_⟩
  · rw [heap_alloc_old _ _ (by omega), heap_alloc_old _ _ (by omega), heap_alloc_old _ _ (by omega), heap_alloc_old _ _ (by omega), heap_alloc_old _ _ (by omega)]; exact a0
  · rw [heap_alloc_old _ _ (by omega), heap_alloc_old _ _ (by omega), heap_alloc_old _ _ (by omega), heap_alloc_old _ _ (by omega)]; exact a1
  · rw [heap_alloc_old _ _ (by omega), heap_alloc_old _ _ (by omega), heap_alloc_old _ _ (by omega)]; exact a2
  · rw [heap_alloc_old _ _ (by omega), heap_alloc_old _ _ (by omega)]; exact a3
  · rw [heap_alloc_old _ _ (by omega)]; exact a4
  · exact ((((((Below.refl _ _).alloc (Nat.le_refl _) _).alloc (by omega) _).alloc (by omega) _).alloc (by omega) _).alloc (by omega) _).alloc (by omega) _

theorem box_cell {W : World} {c : Nat} {v : Value} {T : TypeId} (h : W.heap[c]? = some (.cells #[v] T (0, 0))) : W.cell? ⟨c, 0, none⟩ = some v := by rw [cell_of_row W c 0 _ _ _ h]; rfl

set_option maxHeartbeats 4000000 in
theorem listed_next (f d : Nat) (hd : d < 100) (hE : ExprReads f (d + 1)) (B : Nat) (l : Toks) (i : Nat) (fin : ByteArray) (w : World) (br bd : Nat) (g : Nat) (lb : Array Value) (eg : ∀ args w, (callFunc g args).run Tryz.prog w = .ok (.enter g args) w) (R : Int → World → Prop) (hr : RdAt B l i w)
    (cr : w.cell? ⟨br, 0, none⟩ = some (.pointer (some ⟨B, 0, none⟩))) (cd : w.cell? ⟨bd, 0, none⟩ = some (.int .i64 d)) (hbr : B < br) (hbd : B < bd)
    (hbad : ∀ e, pList (pEx l f) l fin.data.toList (l.length + 1) [] i = .bad e → ∀ w', Moved B w w' → R e w')
    (hok : ∀ xs j, pList (pEx l f) l fin.data.toList (l.length + 1) [] i = .ok xs j → ∀ w' v, Moved B w w' → RdAt B l j w' → SlAt (Fresh w.heap.size w') (ExAt (Fresh w.heap.size w') w') 5 xs v → Calls Tryz.prog g (#[v] ++ lb) w' (Ends R)) :
    Calls Tryz.prog 153 #[.pointer (some ⟨B, 0, none⟩), .string fin, .func (.func 152) #[] #[.pointer (some ⟨br, 0, none⟩), .pointer (some ⟨bd, 0, none⟩)], .func (.func g) #[] lb] w (Ends R) := by
  have hlt := rd_lt hr
  have hbrw : br < w.heap.size := World.block_lt_of_cell? w _ cr
  have hbdw : bd < w.heap.size := World.block_lt_of_cell? w _ cd
  obtain ⟨Wb, hWb, hsz, p0, p1, p2, p3, p4, p5, hbel⟩ := six_new w (.cells #[.pointer (some ⟨B, 0, none⟩)] 76) (.cells #[.string fin] 9) (.cells #[.func (.func 152) #[] #[.pointer (some ⟨br, 0, none⟩), .pointer (some ⟨bd, 0, none⟩)]] 170) (.cells #[.func (.func g) #[] lb] 162) (.cells #[.slice none 0 0] 50)
    (.cells #[.func (.func 162) #[] #[.pointer (some ⟨w.heap.size + 4, 0, none⟩), .pointer (some ⟨w.heap.size, 0, none⟩), .pointer (some ⟨w.heap.size + 2, 0, none⟩), .pointer (some ⟨w.heap.size + 5, 0, none⟩), .pointer (some ⟨w.heap.size + 1, 0, none⟩), .pointer (some ⟨w.heap.size + 3, 0, none⟩)]] 128)
  have hm : Moved B w Wb := Moved.of_below hbel (by omega)
  have hr0 := rd_below hr hbel
  have cr0 : Wb.cell? ⟨br, 0, none⟩ = some (.pointer (some ⟨B, 0, none⟩)) := (hbel.cell (p := ⟨br, 0, none⟩) hbrw).trans cr
  have cd0 : Wb.cell? ⟨bd, 0, none⟩ = some (.int .i64 d) := (hbel.cell (p := ⟨bd, 0, none⟩) hbdw).trans cd
  have xbr : LBox B (w.heap.size + 4) (w.heap.size + 6) br (.pointer (some ⟨B, 0, none⟩)) Wb := ⟨cr0, hbr, by omega, by omega⟩
  have xbd : LBox B (w.heap.size + 4) (w.heap.size + 6) bd (.int .i64 d) Wb := ⟨cd0, hbd, by omega, by omega⟩
  have hK0 : Kept B (w.heap.size + 4) (w.heap.size + 6) Wb Wb := ⟨Below.refl _ _, fun _ _ _ _ => rfl, by omega⟩
  have hL0 : ListOf ExC 52 50 (w.heap.size + 6) (w.heap.size + 4) (w.heap.size + 6) [] none 0 [] Wb := ⟨p4, ⟨rfl, Or.inl ⟨rfl, rfl⟩⟩, fun g' h => (by cases h), fun j hj => absurd hj (by simp)⟩
  have cI := one_next f d hd hE B l i Wb br bd 162 #[.pointer (some ⟨w.heap.size + 4, 0, none⟩), .pointer (some ⟨w.heap.size, 0, none⟩), .pointer (some ⟨w.heap.size + 2, 0, none⟩), .pointer (some ⟨w.heap.size + 5, 0, none⟩), .pointer (some ⟨w.heap.size + 1, 0, none⟩), .pointer (some ⟨w.heap.size + 3, 0, none⟩)] (enters_of Tryz.func162 (by kernel_rfl) rfl) R hr0 cr0 cd0
    (fun e he w' hm' => hbad e (pList_bad he) w' (hm.trans hm'))
    (fun x j hx w' v hm' hr' hv => by
      refine next_go f B l fin w Wb (w.heap.size + 6) (w.heap.size + 4) w.heap.size (w.heap.size + 2) (w.heap.size + 5) (w.heap.size + 1) (w.heap.size + 3) 152 g #[.pointer (some ⟨br, 0, none⟩), .pointer (some ⟨bd, 0, none⟩)] lb (enters_of Tryz.func152 (by kernel_rfl) rfl) eg R hm (by omega) (by omega) (by omega)
        ⟨box_cell p0, by omega, by omega, by omega⟩ ⟨box_cell p2, by omega, by omega, by omega⟩ ⟨box_cell p5, by omega, by omega, by omega⟩ ⟨box_cell p1, by omega, by omega, by omega⟩ ⟨box_cell p3, by omega, by omega, by omega⟩
        (fun i' W hr1 hk1 g' lb' eg' hbad' hok' => one_next f d hd hE B l i' W br bd g' lb' eg' R hr1 (xbr.later hk1) (xbd.later hk1) hbad' hok')
        l.length j x v (w.heap.size + 6) [] none 0 [] w' (by omega) (by simp) hr' (hK0.moved hm') (Nat.le_refl _) (by have := hm'.below.size; omega) (exL_moved hL0 hm' (by omega) (by omega)) (by rw [hsz] at hv; exact hv) ?_ ?_
      · intro e he w'' hm''
        exact hbad e (by rw [pList_ok hx]; exact he) w'' hm''
      · intro zs j' hz w'' v' hm'' hr'' hv'
        exact hok zs j' (by rw [pList_ok hx]; exact hz) w'' v' hm'' hr'' hv')
  rw [← hWb] at cI
  have HCI := veil cI
  have hef := makeFunc_run
  have e1 := enters_of (P := Tryz.prog) Tryz.func152 (by kernel_rfl) rfl
  clear cI hbad hok hr hWb hsz p0 p1 p2 p3 p4 p5 hbel hm hr0 cr0 cd0 xbr xbd hK0 hL0 cr cd hE eg hbrw hbdw
  go_enter Tryz.func153, Tryz.ntmps153
  go_wp2_with fail
  refine HCI.out.mono ?_
  rintro e w' ⟨y, rfl, hy⟩
  have HY := veil hy
  clear hy
  go_wp2_with fail
  go_ret
  exact ⟨_, rfl, HY.out⟩

set_option maxHeartbeats 2000000 in
theorem args_next (f d : Nat) (hd : d < 100) (hE : ExprReads f (d + 1)) : ArgsReads f d := by
  intro B l i fin w g lb eg R hr hbad hok
  have hlt := rd_lt hr
  have hal : Below w.heap.size w ((w.alloc (.cells #[.pointer (some ⟨B, 0, none⟩)] 76)).alloc (.cells #[.int .i64 d] 3)) := ((Below.refl _ _).alloc (Nat.le_refl _) _).alloc (by simp) _
  have hm : Moved B w ((w.alloc (.cells #[.pointer (some ⟨B, 0, none⟩)] 76)).alloc (.cells #[.int .i64 d] 3)) := Moved.of_below hal (by omega)
  have hsz : ((w.alloc (.cells #[.pointer (some ⟨B, 0, none⟩)] 76)).alloc (.cells #[.int .i64 d] 3)).heap.size = w.heap.size + 2 := by simp
  have cI := listed_next f d hd hE B l i fin ((w.alloc (.cells #[.pointer (some ⟨B, 0, none⟩)] 76)).alloc (.cells #[.int .i64 d] 3)) w.heap.size (w.heap.size + 1) g lb eg R (rd_below hr hal)
    ((World.cell?_alloc_old _ _ _ (by simp)).trans (World.cell?_alloc_at _ _ _ _ rfl)) (World.cell?_alloc_at _ _ _ _ (by simp)) (by omega) (by omega)
    (fun e he w' hm' => hbad e he w' (hm.trans hm'))
    (fun xs j hx w' v hm' hr' hv => hok xs j hx w' v (hm.trans hm') hr' (exSl_keep ⟨fun _ _ => rfl, fun b hb => ⟨by have := hb.1; omega, hb.2⟩⟩ hv))
  have HCI := veil cI
  have hef := makeFunc_run
  clear cI hbad hok hr hal hm hsz hE eg
  go_enter Tryz.func143, Tryz.ntmps143
  go_wp2_with fail
  refine HCI.out.mono ?_
  rintro e w' ⟨y, rfl, hy⟩
  have HY := veil hy
  clear hy
  go_wp2_with fail
  go_ret
  exact ⟨_, rfl, HY.out⟩

/-- expressions are read as 'pEx' says. -/
theorem expr_next : ∀ (f d : Nat), d + f = 41 → ExprReads f d
  | 0, d, h => expr_zero d (by omega) (by omega)
  | f + 1, d, h => by
    have hE := expr_next f (d + 1) (by omega)
    exact expr_succ f d (by omega) (operand_next f d (by omega) hE (head_next f d (by omega) hE (args_next f d (by omega) hE) (call_next f d (args_next f d (by omega) hE))))

end Go.Proofs.YtieoddnaknpmlabGreatDoor
