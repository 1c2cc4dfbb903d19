/- What the reader's operand and expr do around what stands between pluses: they read operands, each by the reading that is handed in, and hand the sum of them to the way back. -/
import Derived.Test.YtpamadnckijfkabGreatDoorReadAt
import Derived.Laws.EntriesVeiled
namespace Go.Proofs.YtpamadnckijfkabGreatDoor
open Go.RowKit
set_option maxRecDepth 100000

/-- the reader's operand, and its something, read as 'pTail' and 'pHead' say. -/
def OperandReads (f d : Nat) : Prop := ∀ (B : Nat) (l : Toks) (i : Nat) (w : World) (g : Nat) (lb : Array Value), (∀ args w, (callFunc g args).run Tryz.prog w = .ok (.enter g args) w) → ∀ (R : Int → World → Prop), RdAt B l i w →
    (∀ e, pTail (pEx l f) l i = .bad e → ∀ w', Moved B w w' → R e w') →
    (∀ x j, pTail (pEx l f) l i = .ok x j → ∀ w' v, Moved B w w' → RdAt B l j w' → ExIs (Fresh w.heap.size w') w' x v → Calls Tryz.prog g (#[v] ++ lb) w' (Ends R)) →
    Calls Tryz.prog 111 #[.pointer (some ⟨B, 0, none⟩), .int .i64 d, .func (.func g) #[] lb] w (Ends R)
def HeadReads (f d : Nat) : Prop := ∀ (B : Nat) (l : Toks) (i : Nat) (w : World) (g : Nat) (lb : Array Value), (∀ args w, (callFunc g args).run Tryz.prog w = .ok (.enter g args) w) → ∀ (R : Int → World → Prop), RdAt B l i w →
    (∀ e, pHead (pEx l f) l i = .bad e → ∀ w', Moved B w w' → R e w') →
    (∀ x j, pHead (pEx l f) l i = .ok x j → ∀ w' v, Moved B w w' → RdAt B l j w' → ExIs (Fresh w.heap.size w') w' x v → Calls Tryz.prog g (#[v] ++ lb) w' (Ends R)) →
    Calls Tryz.prog 136 #[.pointer (some ⟨B, 0, none⟩), .int .i64 d, .func (.func g) #[] lb] w (Ends R)

set_option maxHeartbeats 2000000 in
/-- behind the second operand of a sum; 'self': the closure that goes on behind it. -/
theorem sum_back (B : Nat) (l : Toks) (n0 j bp bx self : Nat) (caps : Array Value) (es : ∀ args w, (callFunc self args).run Tryz.prog w = .ok (.enter self args) w) (R : Int → World → Prop) (x p : Ex) (W : World) (k nu ke ne : Int) (fo s fe se : ByteArray) (va1 ve1 : Option Addr) (va2 va3 ve2 ve3 : Nat)
    (hBn : B < n0) (hnW : n0 ≤ W.heap.size) (hr : RdAt B l j W) (kp : W.cell? ⟨bp, 0, none⟩ = some (.func (.func self) #[] caps))
    (b0 : W.cell? ⟨bx, 0, none⟩ = some (.int .i64 k)) (b1 : W.cell? ⟨bx, 1, none⟩ = some (.int .i64 nu)) (b2 : W.cell? ⟨bx, 2, none⟩ = some (.string fo)) (b3 : W.cell? ⟨bx, 3, none⟩ = some (.string s)) (b4 : W.cell? ⟨bx, 4, none⟩ = some (.slice va1 va2 va3))
    (hx : ExCs (Fresh n0 W) W x k nu fo s (.slice va1 va2 va3)) (hp : ExCs (Fresh n0 W) W p ke ne fe se (.slice ve1 ve2 ve3))
    (hok : ∀ w' v, Moved B W w' → RdAt B l j w' → ExIs (Fresh n0 w') w' (exSum x p) v → Calls Tryz.prog self (#[v] ++ caps) w' (Ends R)) :
    Calls Tryz.prog 112 #[.agg #[.int .i64 ke, .int .i64 ne, .string fe, .string se, .slice ve1 ve2 ve3], .pointer (some ⟨bp, 0, none⟩), .pointer (some ⟨bx, 0, none⟩)] W (Ends R) := by
  have hlt := rd_lt hr
  have hbpW := World.block_lt_of_cell? W _ kp
  have hbxW : bx < W.heap.size := World.block_lt_of_cell? W _ b0
  have hal : Below W.heap.size W ((W.alloc (.cells #[.int .i64 ke, .int .i64 ne, .string fe, .string se, .slice ve1 ve2 ve3] 52)).alloc (.cells #[.int .i64 k, .int .i64 nu, .string fo, .string s, .slice va1 va2 va3, .int .i64 ke, .int .i64 ne, .string fe, .string se, .slice ve1 ve2 ve3] 52)) := ((Below.refl _ _).alloc (Nat.le_refl _) _).alloc (by simp) _
  have hm2 : Moved B W ((W.alloc (.cells #[.int .i64 ke, .int .i64 ne, .string fe, .string se, .slice ve1 ve2 ve3] 52)).alloc (.cells #[.int .i64 k, .int .i64 nu, .string fo, .string s, .slice va1 va2 va3, .int .i64 ke, .int .i64 ne, .string fe, .string se, .slice ve1 ve2 ve3] 52)) := Moved.of_below hal (by omega)
  have HK := veil (hok _ _ hm2 (rd_below hr hal) (ex_two (W := W.alloc (.cells #[.int .i64 ke, .int .i64 ne, .string fe, .string se, .slice ve1 ve2 ve3] 52)) (by simp; omega) (hx.keep (fresh_keeps hBn hm2)) (hp.keep (fresh_keeps hBn hm2)) 5))
  have hbpW' : bp < W.heap.size := hbpW
  rw [show (W.alloc (.cells #[.int .i64 ke, .int .i64 ne, .string fe, .string se, .slice ve1 ve2 ve3] 52)).heap.size = W.heap.size + 1 by simp] at HK
  clear hok hx hp hr hal hm2
  go_enter Tryz.func112, Tryz.ntmps112
  go_wp2_with fail
  refine HK.out.mono ?_
  rintro e w' ⟨y, rfl, hy⟩
  have HY := veil hy
  clear hy
  go_wp2_with fail
  go_ret
  exact ⟨_, rfl, HY.out⟩

set_option maxHeartbeats 4000000 in
theorem sums_next (f d : Nat) (hE : OperandReads f d) (B : Nat) (l : Toks) (n0 : Nat) (g : Nat) (lb : Array Value) (eg : ∀ args w, (callFunc g args).run Tryz.prog w = .ok (.enter g args) w) (R : Int → World → Prop) (br bk bd bp : Nat) (hBn : B < n0) :
    ∀ (n i : Nat) (x : Ex) (v : Value) (W : World), l.length - i < n → RdAt B l i W → ExIs (Fresh n0 W) W x v → Boxes B d g lb 110 br bk bd bp W → n0 ≤ W.heap.size →
    (∀ e, pSums (pEx l f) l n x i = .bad e → ∀ w', Moved B W w' → R e w') →
    (∀ y j, pSums (pEx l f) l n x i = .ok y j → ∀ w' v', Moved B W w' → RdAt B l j w' → ExIs (Fresh n0 w') w' y v' → Calls Tryz.prog g (#[v'] ++ lb) w' (Ends R)) →
    Calls Tryz.prog 110 #[v, .pointer (some ⟨br, 0, none⟩), .pointer (some ⟨bk, 0, none⟩), .pointer (some ⟨bd, 0, none⟩), .pointer (some ⟨bp, 0, none⟩)] W (Ends R) := by
  intro n
  induction n with
  | zero => intro i x v W hn; omega
  | succ n ih =>
    intro i x v W hn hr hx hbx hnW hbad hok
    obtain ⟨k, nu, fo, s, va, rfl, hcs⟩ := hx
    obtain ⟨va1, va2, va3, rfl⟩ := hcs.slice
    have HIH := veil ih
    have HEg := veil eg
    have HE := veil hE
    have HBad := veil hbad
    have HOk := veil hok
    have HC := veil hcs
    have HBx := veil hbx
    have hlt := rd_lt hr
    have hal : Below W.heap.size W (W.alloc (.cells #[.int .i64 k, .int .i64 nu, .string fo, .string s, .slice va1 va2 va3] 52)) := (Below.refl _ _).alloc (Nat.le_refl _) _
    have HM0 : Hid (Moved B W (W.alloc (.cells #[.int .i64 k, .int .i64 nu, .string fo, .string s, .slice va1 va2 va3] 52))) := Moved.of_below hal (by omega)
    have HR0 := veil (rd_below hr hal)
    have HP : Hid (pSums (pEx l f) l (n + 1) x i = if sgn l i [43] = true then (match pTail (pEx l f) l (i + 1) with
      | .bad e => .bad e
      | .ok y j => pSums (pEx l f) l n (exSum x y) j) else .ok x i) := by show _ = _; rw [pSums]; rfl
    have hB0 := hbx.keep HM0.out
    have c1 := hB0.r
    have hef := makeFunc_run
    have HB0 := veil hB0
    clear hbad hok hr ih hal eg hcs hbx hE hB0
    go_enter Tryz.func110, Tryz.ntmps110
    go_wp2_with fail
    refine (sign_next B l i ⟨#[43]⟩ _ HR0.out).mono ?_
    rintro e w1 ⟨rfl, q1, q2⟩
    have HN1 := veil q2
    have HM1 := veil (HM0.out.trans q2)
    have hsz1 : W.heap.size + 1 ≤ w1.heap.size := by have := q2.below.size; simpa using this
    have hB1 := HB0.out.keep q2
    have e0 : w1.cell? ⟨W.heap.size, 0, none⟩ = some (.int .i64 k) := (q2.cell (by omega) (by simp) 0).trans (World.cell?_alloc_at _ _ _ _ rfl)
    have e1 : w1.cell? ⟨W.heap.size, 1, none⟩ = some (.int .i64 nu) := (q2.cell (by omega) (by simp) 1).trans (World.cell?_alloc_at _ _ _ _ rfl)
    have e2 : w1.cell? ⟨W.heap.size, 2, none⟩ = some (.string fo) := (q2.cell (by omega) (by simp) 2).trans (World.cell?_alloc_at _ _ _ _ rfl)
    have e3 : w1.cell? ⟨W.heap.size, 3, none⟩ = some (.string s) := (q2.cell (by omega) (by simp) 3).trans (World.cell?_alloc_at _ _ _ _ rfl)
    have e4 : w1.cell? ⟨W.heap.size, 4, none⟩ = some (.slice va1 va2 va3) := (q2.cell (by omega) (by simp) 4).trans (World.cell?_alloc_at _ _ _ _ rfl)
    have k1 := hB1.r
    have k2 := hB1.k
    have k3 := hB1.d
    have HB1 := veil hB1
    clear hB1 c1
    cases hs : sgn l i [43]
    · have hs' : sgn l i (ByteArray.mk #[43]).data.toList = false := hs
      rw [hs'] at q1
      rw [if_neg (by rw [hs]; simp)] at HP
      have HK := veil (HOk.out _ _ HP.out w1 _ HM1.out q1 ⟨_, _, _, _, _, rfl, HC.out.keep (fresh_keeps hBn HM1.out)⟩)
      have eg := HEg.out
      try rw [hs']
      clear q1 q2 HBad HOk
      go_wp2_with fail
      refine HK.out.mono ?_
      rintro e w' ⟨y, rfl, hy⟩
      have HY := veil hy
      clear hy
      go_wp2_with fail
      go_ret
      exact ⟨_, rfl, HY.out⟩
    · have hs' : sgn l i (ByteArray.mk #[43]).data.toList = true := hs
      have hil := sgn_lt hs
      rw [hs'] at q1
      rw [if_pos hs] at HP
      have HR1 : Hid (RdAt B l (i + 1) w1) := q1
      have cI := HE.out B l (i + 1) w1 112 #[.pointer (some ⟨bp, 0, none⟩), .pointer (some ⟨W.heap.size, 0, none⟩)] (enters_of Tryz.func112 (by kernel_rfl) rfl) R HR1.out
        (fun e he w' hm => HBad.out e (by rw [HP.out, he]) w' (HM1.out.trans hm))
        (fun p j hp W2 v hm hr2 hv => by
          have hadv := pTail_adv (fun i x j => pEx_adv f i x j) hp
          have hm2 := HM1.out.trans hm
          have hB2 := HB1.out.keep hm
          have hsz2 := hm.below.size
          have b0 := (hm.cell (c := W.heap.size) (by omega) (by omega) 0).trans e0
          have b1 := (hm.cell (c := W.heap.size) (by omega) (by omega) 1).trans e1
          have b2 := (hm.cell (c := W.heap.size) (by omega) (by omega) 2).trans e2
          have b3 := (hm.cell (c := W.heap.size) (by omega) (by omega) 3).trans e3
          have b4 := (hm.cell (c := W.heap.size) (by omega) (by omega) 4).trans e4
          have hv2 := ex_wider (n := n0) (by omega) hv
          obtain ⟨ke, ne, fe, se, ve, rfl, hce⟩ := hv2
          obtain ⟨ve1, ve2, ve3, rfl⟩ := hce.slice
          have hcx := HC.out.keep (fresh_keeps hBn hm2)
          exact sum_back B l n0 j bp W.heap.size 110 #[.pointer (some ⟨br, 0, none⟩), .pointer (some ⟨bk, 0, none⟩), .pointer (some ⟨bd, 0, none⟩), .pointer (some ⟨bp, 0, none⟩)] (enters_of Tryz.func110 (by kernel_rfl) rfl) R x p W2 k nu ke ne fo s fe se va1 ve1 va2 va3 ve2 ve3 hBn (by omega) hr2 hB2.p b0 b1 b2 b3 b4 hcx hce
            (fun w' v' hm' hr' hv' => HIH.out j (exSum x p) v' w' (by omega) hr' hv' (hB2.keep hm') (by have := hm'.below.size; omega)
              (fun e he w'' hm'' => HBad.out e (by rw [HP.out, hp]; exact he) w'' ((hm2.trans hm').trans hm''))
              (fun y j' hy w'' v'' hm'' hr'' hv'' => HOk.out y j' (by rw [HP.out, hp]; exact hy) w'' v'' ((hm2.trans hm').trans hm'') hr'' hv'')))
      have HCI := veil cI
      try rw [hs']
      clear q1 q2 HBad HOk cI
      go_wp2_with fail
      refine HCI.out.mono ?_
      rintro e w' ⟨y, rfl, hy⟩
      have HY := veil hy
      clear hy
      go_wp2_with fail
      go_ret
      exact ⟨_, rfl, HY.out⟩

set_option maxHeartbeats 2000000 in
theorem operand_next (f d : Nat) (hd1 : d < 100) (hE : ExprReads f (d + 1)) (hH : HeadReads f d) : OperandReads f d := by
  intro B l i w g lb eg R hr hbad hok
  have hlt := rd_lt hr
  have hal : Below w.heap.size w ((((w.alloc (.cells #[.pointer (some ⟨B, 0, none⟩)] 76)).alloc (.cells #[.int .i64 d] 3)).alloc (.cells #[.func (.func g) #[] lb] 128)).alloc (.cells #[.func (.func 134) #[] #[.pointer (some ⟨w.heap.size, 0, none⟩), .pointer (some ⟨w.heap.size + 2, 0, none⟩), .pointer (some ⟨w.heap.size + 1, 0, none⟩), .pointer (some ⟨w.heap.size + 3, 0, none⟩)]] 128)) := ((((Below.refl _ _).alloc (Nat.le_refl _) _).alloc (by simp) _).alloc (by simp; omega) _).alloc (by simp; omega) _
  have hm : Moved B w ((((w.alloc (.cells #[.pointer (some ⟨B, 0, none⟩)] 76)).alloc (.cells #[.int .i64 d] 3)).alloc (.cells #[.func (.func g) #[] lb] 128)).alloc (.cells #[.func (.func 134) #[] #[.pointer (some ⟨w.heap.size, 0, none⟩), .pointer (some ⟨w.heap.size + 2, 0, none⟩), .pointer (some ⟨w.heap.size + 1, 0, none⟩), .pointer (some ⟨w.heap.size + 3, 0, none⟩)]] 128)) := Moved.of_below hal (by omega)
  have hbx : Boxes B d g lb 134 w.heap.size (w.heap.size + 2) (w.heap.size + 1) (w.heap.size + 3) ((((w.alloc (.cells #[.pointer (some ⟨B, 0, none⟩)] 76)).alloc (.cells #[.int .i64 d] 3)).alloc (.cells #[.func (.func g) #[] lb] 128)).alloc (.cells #[.func (.func 134) #[] #[.pointer (some ⟨w.heap.size, 0, none⟩), .pointer (some ⟨w.heap.size + 2, 0, none⟩), .pointer (some ⟨w.heap.size + 1, 0, none⟩), .pointer (some ⟨w.heap.size + 3, 0, none⟩)]] 128)) := by
    refine ⟨?_, ?_, ?_, World.cell?_alloc_at _ _ _ _ (by simp), by omega, by omega, by omega, by omega⟩
    · exact (World.cell?_alloc_old _ _ _ (by first | (simp; done) | (simp; omega))).trans ((World.cell?_alloc_old _ _ _ (by first | (simp; done) | (simp; omega))).trans ((World.cell?_alloc_old _ _ _ (by first | (simp; done) | (simp; omega))).trans (World.cell?_alloc_at _ _ _ _ rfl)))
    · exact (World.cell?_alloc_old _ _ _ (by first | (simp; done) | (simp; omega))).trans (World.cell?_alloc_at _ _ _ _ (by simp))
    · exact (World.cell?_alloc_old _ _ _ (by first | (simp; done) | (simp; omega))).trans ((World.cell?_alloc_old _ _ _ (by first | (simp; done) | (simp; omega))).trans (World.cell?_alloc_at _ _ _ _ (by simp)))
  have cI := hH B l i ((((w.alloc (.cells #[.pointer (some ⟨B, 0, none⟩)] 76)).alloc (.cells #[.int .i64 d] 3)).alloc (.cells #[.func (.func g) #[] lb] 128)).alloc (.cells #[.func (.func 134) #[] #[.pointer (some ⟨w.heap.size, 0, none⟩), .pointer (some ⟨w.heap.size + 2, 0, none⟩), .pointer (some ⟨w.heap.size + 1, 0, none⟩), .pointer (some ⟨w.heap.size + 3, 0, none⟩)]] 128)) 134 #[.pointer (some ⟨w.heap.size, 0, none⟩), .pointer (some ⟨w.heap.size + 2, 0, none⟩), .pointer (some ⟨w.heap.size + 1, 0, none⟩), .pointer (some ⟨w.heap.size + 3, 0, none⟩)] (enters_of Tryz.func134 (by kernel_rfl) rfl) R (rd_below hr hal)
    (fun e he w' hm' => hbad e (by rw [pTail, he]) w' (hm.trans hm'))
    (fun x j hx w' v hm' hr' hv => places_next f d hd1 hE B l w.heap.size g lb eg R w.heap.size (w.heap.size + 2) (w.heap.size + 1) (w.heap.size + 3) hlt (l.length + 1) j x v w' (by omega) hr' (ex_wider (by simp; omega) hv) (hbx.keep hm') (by have := hm'.below.size; simp at this; omega)
      (fun e he w'' hm'' => hbad e (by rw [pTail, hx]; exact he) w'' ((hm.trans hm').trans hm''))
      (fun y j' hy w'' v' hm'' hr'' hv' => hok y j' (by rw [pTail, hx]; exact hy) w'' v' ((hm.trans hm').trans hm'') hr'' hv'))
  have HCI := veil cI
  have hef := makeFunc_run
  clear cI hbad hok hr hal hm hbx hH eg
  go_enter Tryz.func111, Tryz.ntmps111
  go_wp2_with fail
  refine HCI.out.mono ?_
  rintro e w' ⟨y, rfl, hy⟩
  have HY := veil hy
  clear hy
  go_wp2_with fail
  go_ret
  exact ⟨_, rfl, HY.out⟩

theorem expr_zero (d : Nat) (hd : 40 < d) (hd2 : d < 100) : ExprReads 0 d := by
  intro B l i w g lb eg R hr hbad hok
  have hlt := rd_lt hr
  have hd' : (40 : Int) < (d : Int) := by omega
  have HB := veil (hbad 1 (by rw [pEx]) (((w.alloc (.cells #[.pointer (some ⟨B, 0, none⟩)] 76)).alloc (.cells #[.int .i64 d] 3)).alloc (.cells #[.func (.func g) #[] lb] 128)) (((Moved.of_below ((Below.refl _ _).alloc (Nat.le_refl _) _) (by omega)).alloc (by simp; omega) _).alloc (by simp; omega) _))
  clear hbad hok eg hr hd2
  go_enter Tryz.func74, Tryz.ntmps74
  go_wp2_with fail
  go_ret
  exact ⟨_, rfl, HB.out⟩

set_option maxHeartbeats 2000000 in
theorem expr_succ (f d : Nat) (hd1 : d ≤ 40) (hH : OperandReads f d) : ExprReads (f + 1) d := by
  intro B l i w g lb eg R hr hbad hok
  have hH' := hH
  have hlt := rd_lt hr
  have hal : Below w.heap.size w ((((w.alloc (.cells #[.pointer (some ⟨B, 0, none⟩)] 76)).alloc (.cells #[.int .i64 d] 3)).alloc (.cells #[.func (.func g) #[] lb] 128)).alloc (.cells #[.func (.func 110) #[] #[.pointer (some ⟨w.heap.size, 0, none⟩), .pointer (some ⟨w.heap.size + 2, 0, none⟩), .pointer (some ⟨w.heap.size + 1, 0, none⟩), .pointer (some ⟨w.heap.size + 3, 0, none⟩)]] 128)) := ((((Below.refl _ _).alloc (Nat.le_refl _) _).alloc (by simp) _).alloc (by simp; omega) _).alloc (by simp; omega) _
  have hm : Moved B w ((((w.alloc (.cells #[.pointer (some ⟨B, 0, none⟩)] 76)).alloc (.cells #[.int .i64 d] 3)).alloc (.cells #[.func (.func g) #[] lb] 128)).alloc (.cells #[.func (.func 110) #[] #[.pointer (some ⟨w.heap.size, 0, none⟩), .pointer (some ⟨w.heap.size + 2, 0, none⟩), .pointer (some ⟨w.heap.size + 1, 0, none⟩), .pointer (some ⟨w.heap.size + 3, 0, none⟩)]] 128)) := Moved.of_below hal (by omega)
  have hbx : Boxes B d g lb 110 w.heap.size (w.heap.size + 2) (w.heap.size + 1) (w.heap.size + 3) ((((w.alloc (.cells #[.pointer (some ⟨B, 0, none⟩)] 76)).alloc (.cells #[.int .i64 d] 3)).alloc (.cells #[.func (.func g) #[] lb] 128)).alloc (.cells #[.func (.func 110) #[] #[.pointer (some ⟨w.heap.size, 0, none⟩), .pointer (some ⟨w.heap.size + 2, 0, none⟩), .pointer (some ⟨w.heap.size + 1, 0, none⟩), .pointer (some ⟨w.heap.size + 3, 0, none⟩)]] 128)) := by
    refine ⟨?_, ?_, ?_, World.cell?_alloc_at _ _ _ _ (by simp), by omega, by omega, by omega, by omega⟩
    · exact (World.cell?_alloc_old _ _ _ (by first | (simp; done) | (simp; omega))).trans ((World.cell?_alloc_old _ _ _ (by first | (simp; done) | (simp; omega))).trans ((World.cell?_alloc_old _ _ _ (by first | (simp; done) | (simp; omega))).trans (World.cell?_alloc_at _ _ _ _ rfl)))
    · exact (World.cell?_alloc_old _ _ _ (by first | (simp; done) | (simp; omega))).trans (World.cell?_alloc_at _ _ _ _ (by simp))
    · exact (World.cell?_alloc_old _ _ _ (by first | (simp; done) | (simp; omega))).trans ((World.cell?_alloc_old _ _ _ (by first | (simp; done) | (simp; omega))).trans (World.cell?_alloc_at _ _ _ _ (by simp)))
  have cI := hH B l i ((((w.alloc (.cells #[.pointer (some ⟨B, 0, none⟩)] 76)).alloc (.cells #[.int .i64 d] 3)).alloc (.cells #[.func (.func g) #[] lb] 128)).alloc (.cells #[.func (.func 110) #[] #[.pointer (some ⟨w.heap.size, 0, none⟩), .pointer (some ⟨w.heap.size + 2, 0, none⟩), .pointer (some ⟨w.heap.size + 1, 0, none⟩), .pointer (some ⟨w.heap.size + 3, 0, none⟩)]] 128)) 110 #[.pointer (some ⟨w.heap.size, 0, none⟩), .pointer (some ⟨w.heap.size + 2, 0, none⟩), .pointer (some ⟨w.heap.size + 1, 0, none⟩), .pointer (some ⟨w.heap.size + 3, 0, none⟩)] (enters_of Tryz.func110 (by kernel_rfl) rfl) R (rd_below hr hal)
    (fun e he w' hm' => hbad e (by rw [pEx, he]) w' (hm.trans hm'))
    (fun x j hx w' v hm' hr' hv => sums_next f d hH' B l w.heap.size g lb eg R w.heap.size (w.heap.size + 2) (w.heap.size + 1) (w.heap.size + 3) hlt (l.length + 1) j x v w' (by omega) hr' (ex_wider (by simp; omega) hv) (hbx.keep hm') (by have := hm'.below.size; simp at this; omega)
      (fun e he w'' hm'' => hbad e (by rw [pEx, hx]; exact he) w'' ((hm.trans hm').trans hm''))
      (fun y j' hy w'' v' hm'' hr'' hv' => hok y j' (by rw [pEx, hx]; exact hy) w'' v' ((hm.trans hm').trans hm'') hr'' hv'))
  have HCI := veil cI
  have hef := makeFunc_run
  have hd' : ¬ (40 : Int) < (d : Int) := by omega
  clear cI hbad hok hr hal hm hbx hH hH' eg
  go_enter Tryz.func74, Tryz.ntmps74
  go_wp2_with fail
  refine HCI.out.mono ?_
  rintro e w' ⟨y, rfl, hy⟩
  have HY := veil hy
  clear hy
  go_wp2_with fail
  go_ret
  exact ⟨_, rfl, HY.out⟩

end Go.Proofs.YtpamadnckijfkabGreatDoor
