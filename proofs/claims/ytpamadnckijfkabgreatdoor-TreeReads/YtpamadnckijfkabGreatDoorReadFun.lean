/- What the reader's fun answers, at every reader and every way back: the function that is next, handed to the way back; or what is wrong first. -/
import Derived.Test.YtpamadnckijfkabGreatDoorReadParams
namespace Go.Proofs.YtpamadnckijfkabGreatDoor
open Go.RowKit
set_option maxRecDepth 100000

/-- the boxes of a function's reading. -/
structure FBox (B : Nat) (br bk bn bv : Nat) (g : Nat) (lb : Array Value) (nm vr : ByteArray) (W : World) : Prop where
  r : W.cell? ⟨br, 0, none⟩ = some (.pointer (some ⟨B, 0, none⟩))
  k : W.cell? ⟨bk, 0, none⟩ = some (.func (.func g) #[] lb)
  n : W.cell? ⟨bn, 0, none⟩ = some (.string nm)
  v : W.cell? ⟨bv, 0, none⟩ = some (.string vr)
  hr : B < br
  hk : B < bk
  hn : B < bn
  hv : B < bv

theorem FBox.keep {B br bk bn bv g : Nat} {lb : Array Value} {nm vr : ByteArray} {W W' : World} (h : FBox B br bk bn bv g lb nm vr W) (hm : Moved B W W') : FBox B br bk bn bv g lb nm vr W' :=
  ⟨(hm.cell h.hr (World.block_lt_of_cell? W _ h.r) 0).trans h.r, (hm.cell h.hk (World.block_lt_of_cell? W _ h.k) 0).trans h.k, (hm.cell h.hn (World.block_lt_of_cell? W _ h.n) 0).trans h.n, (hm.cell h.hv (World.block_lt_of_cell? W _ h.v) 0).trans h.v, h.hr, h.hk, h.hn, h.hv⟩

set_option maxHeartbeats 2000000 in
/-- behind a function's body. -/
theorem fun_back3 (g : Nat) (lb : Array Value) (eg : ∀ args w, (callFunc g args).run Tryz.prog w = .ok (.enter g args) w) (R : Int → World → Prop) (bk bn bv bp bt : Nat) (nm vr : ByteArray) (vp1 : Option Addr) (vp2 vp3 : Nat) (k : Int) (f n : ByteArray) (va1 : Option Addr) (va2 va3 : Nat) (k' n' : Int) (f' s' : ByteArray) (ve1 : Option Addr) (ve2 ve3 : Nat) (W : World)
    (ck : W.cell? ⟨bk, 0, none⟩ = some (.func (.func g) #[] lb)) (cn : W.cell? ⟨bn, 0, none⟩ = some (.string nm)) (cv : W.cell? ⟨bv, 0, none⟩ = some (.string vr)) (cp : W.cell? ⟨bp, 0, none⟩ = some (.slice vp1 vp2 vp3))
    (t0 : W.cell? ⟨bt, 0, none⟩ = some (.int .i64 k)) (t1 : W.cell? ⟨bt, 1, none⟩ = some (.string f)) (t2 : W.cell? ⟨bt, 2, none⟩ = some (.string n)) (t3 : W.cell? ⟨bt, 3, none⟩ = some (.slice va1 va2 va3))
    (h : Calls Tryz.prog g (#[.agg #[.string nm, .string vr, .slice vp1 vp2 vp3, .int .i64 k, .string f, .string n, .slice va1 va2 va3, .int .i64 k', .int .i64 n', .string f', .string s', .slice ve1 ve2 ve3]] ++ lb) (W.alloc (.cells #[.int .i64 k', .int .i64 n', .string f', .string s', .slice ve1 ve2 ve3] 52)) (Ends R)) :
    Calls Tryz.prog 75 #[.agg #[.int .i64 k', .int .i64 n', .string f', .string s', .slice ve1 ve2 ve3], .pointer (some ⟨bk, 0, none⟩), .pointer (some ⟨bn, 0, none⟩), .pointer (some ⟨bv, 0, none⟩), .pointer (some ⟨bp, 0, none⟩), .pointer (some ⟨bt, 0, none⟩)] W (Ends R) := by
  have HK := veil h
  have hbk : bk < W.heap.size := World.block_lt_of_cell? W _ ck
  have hbn : bn < W.heap.size := World.block_lt_of_cell? W _ cn
  have hbv : bv < W.heap.size := World.block_lt_of_cell? W _ cv
  have hbp : bp < W.heap.size := World.block_lt_of_cell? W _ cp
  have hbt : bt < W.heap.size := World.block_lt_of_cell? W _ t0
  clear h
  go_enter Tryz.func75, Tryz.ntmps75
  go_wp2_with fail
  refine HK.out.mono ?_
  rintro e w' ⟨y, rfl, hy⟩
  have HY := veil hy
  clear hy
  go_wp2_with fail
  go_ret
  exact ⟨_, rfl, HY.out⟩

set_option maxHeartbeats 4000000 in
/-- behind a function's result. -/
theorem fun_back2 (B : Nat) (l : Toks) (j n0 : Nat) (g : Nat) (lb : Array Value) (eg : ∀ args w, (callFunc g args).run Tryz.prog w = .ok (.enter g args) w) (R : Int → World → Prop) (br bk bn bv bp : Nat) (nm vr : ByteArray) (ps : List Fd) (t : Ty) (vp1 : Option Addr) (vp2 vp3 : Nat) (k : Int) (f n : ByteArray) (va1 : Option Addr) (va2 va3 : Nat) (W : World)
    (hr : RdAt B l j W) (hBn : B < n0) (hnW : n0 ≤ W.heap.size) (hbx : FBox B br bk bn bv g lb nm vr W) (cp : W.cell? ⟨bp, 0, none⟩ = some (.slice vp1 vp2 vp3)) (hbp : B < bp) (hnm : nm.size ≤ maxLen) (hvr : vr.size ≤ maxLen)
    (hps : SlAt (Fresh n0 W) (FdAt (Fresh n0 W) W) 5 ps (.slice vp1 vp2 vp3)) (ht : TyCs (Fresh n0 W) W t k f n (.slice va1 va2 va3))
    (hno : sgn l j [61] = false → ∀ w', Moved B W w' → R 4 w')
    (hbad : sgn l j [61] = true → ∀ e, pEx l 40 (j + 1) = .bad e → ∀ w', Moved B W w' → R e w')
    (hok : sgn l j [61] = true → ∀ x j', pEx l 40 (j + 1) = .ok x j' → ∀ w' v, Moved B W w' → RdAt B l j' w' → FuIs (Fresh n0 w') w' ⟨nm, vr, ps, t, x⟩ v → Calls Tryz.prog g (#[v] ++ lb) w' (Ends R)) :
    Calls Tryz.prog 73 #[.agg #[.int .i64 k, .string f, .string n, .slice va1 va2 va3], .pointer (some ⟨br, 0, none⟩), .pointer (some ⟨bk, 0, none⟩), .pointer (some ⟨bn, 0, none⟩), .pointer (some ⟨bv, 0, none⟩), .pointer (some ⟨bp, 0, none⟩)] W (Ends R) := by
  have hlt := rd_lt hr
  have hbpW : bp < W.heap.size := World.block_lt_of_cell? W _ cp
  have hal : Below W.heap.size W (W.alloc (.cells #[.int .i64 k, .string f, .string n, .slice va1 va2 va3] 49)) := (Below.refl _ _).alloc (Nat.le_refl _) _
  have hm0 : Moved B W (W.alloc (.cells #[.int .i64 k, .string f, .string n, .slice va1 va2 va3] 49)) := Moved.of_below hal (by omega)
  have HM0 := veil hm0
  have HR0 := veil (rd_below hr hal)
  have hbx0 := hbx.keep hm0
  have cr := hbx0.r
  have HBx := veil hbx
  have HCp := veil cp
  have HPs := veil hps
  have HT := veil ht
  have HNo := veil hno
  have HBad := veil hbad
  have HOk := veil hok
  have HEg := veil eg
  have HNm := veil hnm
  have HVr := veil hvr
  have hef := makeFunc_run
  clear hr hbx cp hps ht hno hbad hok eg hnm hvr hal hm0 hbx0
  go_enter Tryz.func73, Tryz.ntmps73
  go_wp2_with fail
  refine (sign_next B l j ⟨#[61]⟩ _ HR0.out).mono ?_
  rintro e w1 ⟨rfl, q1, q2⟩
  have hm1 := HM0.out.trans q2
  have HM1 := veil hm1
  have hsz1 : W.heap.size + 1 ≤ w1.heap.size := by have := q2.below.size; simpa using this
  cases hs : sgn l j [61]
  · have hs' : sgn l j (ByteArray.mk #[61]).data.toList = false := hs
    have HB := veil (HNo.out hs w1 hm1)
    try rw [hs']
    clear q1 q2 hs hs' hm1 cr
    go_wp2_with fail
    go_ret
    exact ⟨_, rfl, HB.out⟩
  · have hs' : sgn l j (ByteArray.mk #[61]).data.toList = true := hs
    rw [hs'] at q1
    have q1' : RdAt B l (j + 1) w1 := q1
    have b0 : w1.cell? ⟨W.heap.size, 0, none⟩ = some (.int .i64 k) := (q2.cell (by omega) (by simp) 0).trans (World.cell?_alloc_at _ _ _ _ rfl)
    have b1 : w1.cell? ⟨W.heap.size, 1, none⟩ = some (.string f) := (q2.cell (by omega) (by simp) 1).trans (World.cell?_alloc_at _ _ _ _ rfl)
    have b2 : w1.cell? ⟨W.heap.size, 2, none⟩ = some (.string n) := (q2.cell (by omega) (by simp) 2).trans (World.cell?_alloc_at _ _ _ _ rfl)
    have b3 : w1.cell? ⟨W.heap.size, 3, none⟩ = some (.slice va1 va2 va3) := (q2.cell (by omega) (by simp) 3).trans (World.cell?_alloc_at _ _ _ _ rfl)
    have cE := expr_next 40 1 rfl B l (j + 1) w1 75 #[.pointer (some ⟨bk, 0, none⟩), .pointer (some ⟨bn, 0, none⟩), .pointer (some ⟨bv, 0, none⟩), .pointer (some ⟨bp, 0, none⟩), .pointer (some ⟨W.heap.size, 0, none⟩)] (enters_of Tryz.func75 (by kernel_rfl) rfl) R q1'
      (fun e he w' hm' => HBad.out hs e he w' (hm1.trans hm'))
      (fun x j' hx w' v hm' hr' hv => by
        obtain ⟨k', n', f', s', va, rfl, hcs⟩ := hv
        obtain ⟨ve1, ve2, ve3, rfl⟩ := hcs.slice
        have hm2 := hm1.trans hm'
        have hbx' := HBx.out.keep hm2
        have hsz' := hm'.below.size
        have hal3 : Below w'.heap.size w' (w'.alloc (.cells #[.int .i64 k', .int .i64 n', .string f', .string s', .slice ve1 ve2 ve3] 52)) := (Below.refl _ _).alloc (Nat.le_refl _) _
        have hm3 : Moved B w' (w'.alloc (.cells #[.int .i64 k', .int .i64 n', .string f', .string s', .slice ve1 ve2 ve3] 52)) := Moved.of_below hal3 (by omega)
        refine fun_back3 g lb HEg.out R bk bn bv bp W.heap.size nm vr vp1 vp2 vp3 k f n va1 va2 va3 k' n' f' s' ve1 ve2 ve3 w' hbx'.k hbx'.n hbx'.v ((hm2.cell hbp hbpW 0).trans HCp.out) ((hm'.cell (by omega) (by omega) 0).trans b0) ((hm'.cell (by omega) (by omega) 1).trans b1) ((hm'.cell (by omega) (by omega) 2).trans b2) ((hm'.cell (by omega) (by omega) 3).trans b3) ?_
        have hk1 := fresh_keeps hBn (hm2.trans hm3)
        refine HOk.out hs x j' hx _ _ (hm2.trans hm3) (rd_below hr' hal3) ⟨_, k, f, n, _, k', n', f', s', _, rfl, HNm.out, HVr.out, fdSl_keep hk1 HPs.out, HT.out.keep hk1, ?_⟩
        exact hcs.keep ⟨fun b hb => hm3.above b (by have := hb.1; omega) hb.2, fun b hb => ⟨by have := hb.1; omega, Nat.lt_of_lt_of_le hb.2 hal3.size⟩⟩)
    have HCE := veil cE
    have cr1 := (HBx.out.keep hm1).r
    try rw [hs']
    clear q1 q1' q2 hs hs' hm1 cE cr b0 b1 b2 b3
    go_wp2_with fail
    refine HCE.out.mono ?_
    rintro e w' ⟨y, rfl, hy⟩
    have HY := veil hy
    clear hy
    go_wp2_with fail
    go_ret
    exact ⟨_, rfl, HY.out⟩

set_option maxHeartbeats 4000000 in
/-- behind a function's params. -/
theorem fun_back1 (B : Nat) (l : Toks) (j n0 : Nat) (g : Nat) (lb : Array Value) (eg : ∀ args w, (callFunc g args).run Tryz.prog w = .ok (.enter g args) w) (R : Int → World → Prop) (br bk bn bv : Nat) (nm vr : ByteArray) (ps : List Fd) (vp1 : Option Addr) (vp2 vp3 : Nat) (W : World)
    (hr : RdAt B l j W) (hBn : B < n0) (hnW : n0 ≤ W.heap.size) (hbx : FBox B br bk bn bv g lb nm vr W) (hnm : nm.size ≤ maxLen) (hvr : vr.size ≤ maxLen)
    (hps : SlAt (Fresh n0 W) (FdAt (Fresh n0 W) W) 5 ps (.slice vp1 vp2 vp3))
    (hno : sgn l j [58] = false → ∀ w', Moved B W w' → R 4 w')
    (hbadT : sgn l j [58] = true → ∀ e, pTy l 40 (j + 1) = .bad e → ∀ w', Moved B W w' → R e w')
    (hno2 : sgn l j [58] = true → ∀ t j2, pTy l 40 (j + 1) = .ok t j2 → sgn l j2 [61] = false → ∀ w', Moved B W w' → R 4 w')
    (hbad : sgn l j [58] = true → ∀ t j2, pTy l 40 (j + 1) = .ok t j2 → sgn l j2 [61] = true → ∀ e, pEx l 40 (j2 + 1) = .bad e → ∀ w', Moved B W w' → R e w')
    (hok : sgn l j [58] = true → ∀ t j2, pTy l 40 (j + 1) = .ok t j2 → sgn l j2 [61] = true → ∀ x j', pEx l 40 (j2 + 1) = .ok x j' → ∀ w' v, Moved B W w' → RdAt B l j' w' → FuIs (Fresh n0 w') w' ⟨nm, vr, ps, t, x⟩ v → Calls Tryz.prog g (#[v] ++ lb) w' (Ends R)) :
    Calls Tryz.prog 72 #[.slice vp1 vp2 vp3, .pointer (some ⟨br, 0, none⟩), .pointer (some ⟨bk, 0, none⟩), .pointer (some ⟨bn, 0, none⟩), .pointer (some ⟨bv, 0, none⟩)] W (Ends R) := by
  have hlt := rd_lt hr
  have hal : Below W.heap.size W (W.alloc (.cells #[.slice vp1 vp2 vp3] 23)) := (Below.refl _ _).alloc (Nat.le_refl _) _
  have hm0 : Moved B W (W.alloc (.cells #[.slice vp1 vp2 vp3] 23)) := Moved.of_below hal (by omega)
  have HM0 := veil hm0
  have HR0 := veil (rd_below hr hal)
  have hbx0 := hbx.keep hm0
  have cr := hbx0.r
  have HBx := veil hbx
  have HPs := veil hps
  have HNo := veil hno
  have HBadT := veil hbadT
  have HNo2 := veil hno2
  have HBad := veil hbad
  have HOk := veil hok
  have HEg := veil eg
  have HNm := veil hnm
  have HVr := veil hvr
  have hef := makeFunc_run
  clear hr hbx hps hno hbad hok eg hnm hvr hal hm0 hbx0 hbadT hno2
  go_enter Tryz.func72, Tryz.ntmps72
  go_wp2_with fail
  refine (sign_next B l j ⟨#[58]⟩ _ HR0.out).mono ?_
  rintro e w1 ⟨rfl, q1, q2⟩
  have hm1 := HM0.out.trans q2
  have HM1 := veil hm1
  have hsz1 : W.heap.size + 1 ≤ w1.heap.size := by have := q2.below.size; simpa using this
  cases hs : sgn l j [58]
  · have hs' : sgn l j (ByteArray.mk #[58]).data.toList = false := hs
    have HB := veil (HNo.out hs w1 hm1)
    try rw [hs']
    clear q1 q2 hs hs' hm1 cr
    go_wp2_with fail
    go_ret
    exact ⟨_, rfl, HB.out⟩
  · have hs' : sgn l j (ByteArray.mk #[58]).data.toList = true := hs
    rw [hs'] at q1
    have q1' : RdAt B l (j + 1) w1 := q1
    have b0 : w1.cell? ⟨W.heap.size, 0, none⟩ = some (.slice vp1 vp2 vp3) := (q2.cell (by omega) (by simp) 0).trans (World.cell?_alloc_at _ _ _ _ rfl)
    have cT := typ_next 40 1 rfl B l (j + 1) w1 73 #[.pointer (some ⟨br, 0, none⟩), .pointer (some ⟨bk, 0, none⟩), .pointer (some ⟨bn, 0, none⟩), .pointer (some ⟨bv, 0, none⟩), .pointer (some ⟨W.heap.size, 0, none⟩)] (enters_of Tryz.func73 (by kernel_rfl) rfl) R q1'
      (fun e he w' hm' => HBadT.out hs e he w' (hm1.trans hm'))
      (fun t j2 hty w' v hm' hr' hv => by
        obtain ⟨k, f, n, va, rfl, hcs⟩ := hv
        obtain ⟨va1, va2, va3, rfl⟩ := hcs.slice
        have hm2 := hm1.trans hm'
        have hsz' := hm'.below.size
        have hk1 := fresh_keeps hBn hm2
        exact fun_back2 B l j2 n0 g lb HEg.out R br bk bn bv W.heap.size nm vr ps t vp1 vp2 vp3 k f n va1 va2 va3 w' hr' hBn (by omega) (HBx.out.keep hm2) ((hm'.cell (by omega) (by omega) 0).trans b0) (by omega) HNm.out HVr.out (fdSl_keep hk1 HPs.out)
          (hcs.keep ⟨fun _ _ => rfl, fun b hb => ⟨by have := hb.1; omega, hb.2⟩⟩)
          (fun h2 w'' hm'' => HNo2.out hs t j2 hty h2 w'' (hm2.trans hm''))
          (fun h2 e he w'' hm'' => HBad.out hs t j2 hty h2 e he w'' (hm2.trans hm''))
          (fun h2 x j' hx w'' v' hm'' hr'' hv' => HOk.out hs t j2 hty h2 x j' hx w'' v' (hm2.trans hm'') hr'' hv'))
    have HCT := veil cT
    have cr1 := (HBx.out.keep hm1).r
    try rw [hs']
    clear q1 q1' q2 hs hs' hm1 cT cr b0
    go_wp2_with fail
    refine HCT.out.mono ?_
    rintro e w' ⟨y, rfl, hy⟩
    have HY := veil hy
    clear hy
    go_wp2_with fail
    go_ret
    exact ⟨_, rfl, HY.out⟩

end Go.Proofs.YtpamadnckijfkabGreatDoor
