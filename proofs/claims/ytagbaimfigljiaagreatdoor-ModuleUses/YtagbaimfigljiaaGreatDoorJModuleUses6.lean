import Derived.Test.YtagbaimfigljiaaGreatDoorJModuleUses5
namespace Go.Proofs.YtagbaimfigljiaaGreatDoor
open Go.RowKit
set_option maxRecDepth 100000

theorem fd_info : (Tryz.prog.info? 101).map (fun i => (i.zero, i.size, i.bytes)) = some (some (.agg #[.string ⟨#[]⟩, .int .i64 0, .string ⟨#[]⟩, .string ⟨#[]⟩, .slice none 0 0]), 5, 80) := by kernel_rfl

/-- the cells of a field whose parts lie in S. -/
def FdC (S : Nat → Prop) (W : World) (x : Fd) (cs : List Value) : Prop := ∃ k f n va1 va2 va3, cs = [.string x.name, .int .i64 k, .string f, .string n, .slice va1 va2 va3] ∧ x.name.size ≤ maxLen ∧ TyCs S W x.is k f n (.slice va1 va2 va3)

theorem fdC_keep {S S' : Nat → Prop} {W W' : World} {x : Fd} {cs : List Value} (hk : Keeps S S' W W') (h : FdC S W x cs) : FdC S' W' x cs := by
  obtain ⟨k, f, n, va1, va2, va3, rfl, hs, h⟩ := h
  exact ⟨k, f, n, va1, va2, va3, rfl, hs, h.keep hk⟩

theorem fdC_at {S : Nat → Prop} {W : World} {x : Fd} {cs : List Value} {b o : Nat} (_ : cs.length = 5) (h : FdC S W x cs) (hc : ∀ t u, cs[t]? = some u → W.cell? ⟨b, o + t, none⟩ = some u) : FdAt S W x b o := by
  obtain ⟨k, f, n, va1, va2, va3, rfl, hs, h⟩ := h
  exact ⟨⟨hc 0 _ rfl, hs⟩, tyAt_cells.2 ⟨k, f, n, _, hc 1 _ rfl, hc 2 _ rfl, hc 3 _ rfl, hc 4 _ rfl, h⟩⟩

set_option maxHeartbeats 8000000 in
theorem nextF_step (bl br bo bn be bk base : Nat) (la : Option Addr) (lcap m : Nat) (xs : List Value) (nm : ByteArray) (k : Int) (f s : ByteArray) (va1 : Option Addr) (va2 va3 : Nat) (W : World)
    (B : Nat) (l : Toks) (i : Nat) (fin : ByteArray) (g1 g : Nat) (lb1 lb : Array Value) (e1 : ∀ args w, (callFunc g1 args).run Tryz.prog w = .ok (.enter g1 args) w) (eg : ∀ args w, (callFunc g args).run Tryz.prog w = .ok (.enter g args) w) (R : Int → World → Prop) (Wb : World) (caps : Array Value)
    (hl : W.heap[bl]? = some (.cells #[.slice la m lcap] 41 (0, 0))) (hown : W.ownsRow base 101 5 (.slice la m lcap) m xs) (hbase : base ≤ W.heap.size) (hbl : bl < base)
    (hn : m + 1 ≤ maxLen) (hb : (m + 1) * 80 ≤ 140737488355328) (hB : B < bl) (hr : RdAt B l i W) (hkept : Kept B bl base Wb W)
    (xr : LBox B bl base br (.pointer (some ⟨B, 0, none⟩)) Wb) (xo : LBox B bl base bo (.func (.func g1) #[] lb1) Wb) (xn : LBox B bl base bn (.func (.func 313) #[] caps) Wb) (xe : LBox B bl base be (.string fin) Wb) (xk : LBox B bl base bk (.func (.func g) #[] lb) Wb)
    (hcomma : sgn l i [44] = true → ∀ g' cap' w w', Grew base bl 101 41 (.slice la m lcap) (.slice (some ⟨g', 0, none⟩) (m + 1) cap') (m + 1) (xs ++ [.string nm, .int .i64 k, .string f, .string s, .slice va1 va2 va3]) W w → Moved B w w' → RdAt B l (i + 1) w' → Calls Tryz.prog g1 (#[.func (.func 313) #[] caps] ++ lb1) w' (Ends R))
    (hfin : sgn l i [44] = false → sgn l i fin.data.toList = true → ∀ g' cap' w w', Grew base bl 101 41 (.slice la m lcap) (.slice (some ⟨g', 0, none⟩) (m + 1) cap') (m + 1) (xs ++ [.string nm, .int .i64 k, .string f, .string s, .slice va1 va2 va3]) W w → Moved B w w' → RdAt B l (i + 1) w' → Calls Tryz.prog g (#[.slice (some ⟨g', 0, none⟩) (m + 1) cap'] ++ lb) w' (Ends R))
    (hno : sgn l i [44] = false → sgn l i fin.data.toList = false → ∀ g' cap' w w', Grew base bl 101 41 (.slice la m lcap) (.slice (some ⟨g', 0, none⟩) (m + 1) cap') (m + 1) (xs ++ [.string nm, .int .i64 k, .string f, .string s, .slice va1 va2 va3]) W w → Moved B w w' → R 4 w') :
    Calls Tryz.prog 313 #[.agg #[.string nm, .int .i64 k, .string f, .string s, .slice va1 va2 va3], .pointer (some ⟨bl, 0, none⟩), .pointer (some ⟨br, 0, none⟩), .pointer (some ⟨bo, 0, none⟩), .pointer (some ⟨bn, 0, none⟩), .pointer (some ⟨be, 0, none⟩), .pointer (some ⟨bk, 0, none⟩)] W (Ends R) := by
  have HC := veil hcomma
  have HF0 := veil hfin
  have HN0 := veil hno
  have HKp := veil hkept
  have HRd := veil hr
  have HXr := veil xr
  have HXo := veil xo
  have HXn := veil xn
  have HXe := veil xe
  have HXk := veil xk
  have HE1 := veil e1
  have HEg := veil eg
  have HB0 := veil hB
  clear hcomma hfin hno hkept hr xr xo xn xe xk e1 eg hB
  obtain ⟨i0, hi0, hz0, hz1, hz2⟩ := info_parts fd_info
  have HI0 := veil hi0
  have HZ0 := veil hz0
  have HZ1 := veil hz1
  have HZ2 := veil hz2
  have HL := veil hl
  have HOwn := veil hown
  have HBase := veil hbase
  have HBl := veil hbl
  have HNl := veil hn
  have HBy := veil hb
  have hblW : bl < W.heap.size := Nat.lt_of_lt_of_le hbl hbase
  clear hl hown hbase hbl hn hb hi0 hz0 hz1 hz2
  have hcl : W.cell? ⟨bl, 0, none⟩ = some (.slice la m lcap) := by rw [cell_of_row W bl 0 _ _ _ HL.out]; rfl
  have HNews : Hid (∀ j u, ([.string nm, .int .i64 k, .string f, .string s, .slice va1 va2 va3] : List Value)[j]? = some u → ((W.alloc (.cells #[.string nm, .int .i64 k, .string f, .string s, .slice va1 va2 va3] 101)).alloc (.cells #[.string nm, .int .i64 k, .string f, .string s, .slice va1 va2 va3] 101)).cell? ((⟨W.heap.size + 1, 0, none⟩ : Addr).add j) = some u) := by
    refine World.news_of_block (cs := #[.string nm, .int .i64 k, .string f, .string s, .slice va1 va2 va3]) (t := 101) (fr := (0, 0)) ?_
    have h := heap_alloc_new (W.alloc (.cells #[.string nm, .int .i64 k, .string f, .string s, .slice va1 va2 va3] 101)) (.cells #[.string nm, .int .i64 k, .string f, .string s, .slice va1 va2 va3] 101)
    rw [show (W.alloc (.cells #[.string nm, .int .i64 k, .string f, .string s, .slice va1 va2 va3] 101)).heap.size = W.heap.size + 1 by simp] at h
    exact h
  have HOne : Hid (∀ u ∈ ([.string nm, .int .i64 k, .string f, .string s, .slice va1 va2 va3] : List Value), u.oneCell' = true) := by intro u hu; simp at hu; rcases hu with rfl | rfl | rfl | rfl | rfl <;> rfl
  have HH : Hid (((W.alloc (.cells #[.string nm, .int .i64 k, .string f, .string s, .slice va1 va2 va3] 101)).alloc (.cells #[.string nm, .int .i64 k, .string f, .string s, .slice va1 va2 va3] 101)).heap.size = W.heap.size + 2) := by show _ = _; simp
  have HBs : Hid (base ≤ ((W.alloc (.cells #[.string nm, .int .i64 k, .string f, .string s, .slice va1 va2 va3] 101)).alloc (.cells #[.string nm, .int .i64 k, .string f, .string s, .slice va1 va2 va3] 101)).heap.size) := by show _ ≤ _; rw [HH.out]; have := HBase.out; omega
  have HFarB : Hid (some bl ≠ (Value.slice la m lcap).ownBlock) := fun h => by have := ownsRow_in HOwn.out _ h.symm; have := HBl.out; omega
  have HOld : Hid (∀ k', k' < W.heap.size → ((W.alloc (.cells #[.string nm, .int .i64 k, .string f, .string s, .slice va1 va2 va3] 101)).alloc (.cells #[.string nm, .int .i64 k, .string f, .string s, .slice va1 va2 va3] 101)).heap[k']? = W.heap[k']?) := by
    intro k' hk'
    rw [heap_alloc_old _ _ (by simp; omega), heap_alloc_old _ _ (by omega)]
  have HC2 : Hid (∀ w1, ((W.alloc (.cells #[.string nm, .int .i64 k, .string f, .string s, .slice va1 va2 va3] 101)).alloc (.cells #[.string nm, .int .i64 k, .string f, .string s, .slice va1 va2 va3] 101)).grownBy w1 (Value.slice la m lcap).ownBlock → w1.cell? ⟨bl, 0, none⟩ = some (.slice la m lcap) ∧ w1.frozen? ⟨bl, 0, none⟩ = false) := by
    intro w1 hg
    have hb1 : w1.heap[bl]? = some (.cells #[.slice la m lcap] 41 (0, 0)) := (hg.block bl (by rw [HH.out]; omega) HFarB.out).trans ((HOld.out bl hblW).trans HL.out)
    exact ⟨by rw [cell_of_row w1 bl 0 _ _ _ hb1]; rfl, Lib.frozen_of_heap hb1 0⟩
  have HGr : Hid (∀ g' cap' w1, w1.ownsRow base 101 5 (.slice (some ⟨g', 0, none⟩) (m + 1) cap') (m + 1) (xs ++ [.string nm, .int .i64 k, .string f, .string s, .slice va1 va2 va3]) → ((W.alloc (.cells #[.string nm, .int .i64 k, .string f, .string s, .slice va1 va2 va3] 101)).alloc (.cells #[.string nm, .int .i64 k, .string f, .string s, .slice va1 va2 va3] 101)).grownBy w1 (Value.slice la m lcap).ownBlock → ((Value.slice la m lcap).ownBlock = some g' ∨ g' = W.heap.size + 2) → Grew base bl 101 41 (.slice la m lcap) (.slice (some ⟨g', 0, none⟩) (m + 1) cap') (m + 1) (xs ++ [.string nm, .int .i64 k, .string f, .string s, .slice va1 va2 va3]) W (w1.setCell ⟨bl, 0, none⟩ (.slice (some ⟨g', 0, none⟩) (m + 1) cap'))) := fun g' cap' w1 ho hg hat =>
    grew_store (W0 := (W.alloc (.cells #[.string nm, .int .i64 k, .string f, .string s, .slice va1 va2 va3] 101)).alloc (.cells #[.string nm, .int .i64 k, .string f, .string s, .slice va1 va2 va3] 101)) HBl.out HBase.out (by rw [HH.out]; omega) rfl rfl rfl HOld.out hg HL.out HFarB.out ho (hat.imp_right (fun h => by omega))
  go_enter Tryz.func313, Tryz.ntmps313
  go_wp2_with (at_builtin; refine wpList_append_lies _ rfl _ _ 41 rfl base 101 i0 _ 5 80 Tryz.underlying41 HI0.out HZ0.out HZ1.out HZ2.out rfl (by decide) (.slice la m lcap) m xs rfl ((HOwn.out.alloc _).alloc _) ⟨W.heap.size + 1, 0, none⟩ 1 1 [.string nm, .int .i64 k, .string f, .string s, .slice va1 va2 va3] rfl rfl HNews.out HOne.out (by decide) HNl.out HBy.out HBs.out (W.heap.size + 2) HH.out (fun g' cap' w1 hown1 hgrow hat hlt => ?_); obtain ⟨hc2, hf2⟩ := HC2.out w1 hgrow; have HG0 := veil (HGr.out g' cap' w1 hown1 hgrow hat); have cr := HXr.out.later (HKp.out.grew HG0.out HOwn.out HB0.out HBl.out); clear hown1 hgrow hat hlt)
  have hG := HG0.out
  generalize w1.setCell ⟨bl, 0, none⟩ (.slice (some ⟨g', 0, none⟩) (m + 1) cap') = w at *
  have HG := veil hG
  have HR1 := veil (rd_grew HRd.out hG HOwn.out HB0.out HBl.out)
  have hk1 := HKp.out.grew hG HOwn.out HB0.out HBl.out
  have HK1 := veil hk1
  have HBox : Hid (w.cell? ⟨bl, 0, none⟩ = some (.slice (some ⟨g', 0, none⟩) (m + 1) cap')) := by
    show _ = _
    rw [cell_of_row w bl 0 _ _ _ hG.box]; rfl
  have HBlW := veil (heap_lt hG.box)
  clear hG hk1
  refine (sign_next B l i ⟨#[44]⟩ _ HR1.out).mono ?_
  rintro e w2 ⟨rfl, q1, q2⟩
  have HM2 := veil q2
  have hk2 := HK1.out.moved q2
  have HK2 := veil hk2
  cases hc : sgn l i [44]
  · have hc' : sgn l i (ByteArray.mk #[44]).data.toList = false := hc
    rw [hc'] at q1
    have HR2 : Hid (RdAt B l i w2) := q1
    have HC0 := veil hc
    have cr2 := HXr.out.later hk2
    have ce2 := HXe.out.later hk2
    try rw [hc']
    clear q1 q2 hc hc' hk2 cr
    go_wp2_with fail
    refine (sign_next B l i fin _ HR2.out).mono ?_
    rintro e w3 ⟨rfl, q1, q2⟩
    have HM3 := veil (HM2.out.trans q2)
    have hk3 := HK2.out.moved q2
    cases hf : sgn l i fin.data.toList
    · have HRes := veil (HN0.out HC0.out hf g' cap' w w3 HG.out HM3.out)
      try rw [hf]
      clear q1 q2 hf hk3 cr2 ce2
      go_wp2_with fail
      go_ret
      exact ⟨_, rfl, HRes.out⟩
    · rw [hf] at q1
      have q1' : RdAt B l (i + 1) w3 := q1
      have HRes := veil (HF0.out HC0.out hf g' cap' w w3 HG.out HM3.out q1')
      have ck3 := HXk.out.later hk3
      have cl3 : w3.cell? ⟨bl, 0, none⟩ = some (.slice (some ⟨g', 0, none⟩) (m + 1) cap') := (HM3.out.cell HB0.out HBlW.out 0).trans HBox.out
      have eg := HEg.out
      try rw [hf]
      clear q1 q1' q2 hf hk3 cr2 ce2
      go_wp2_with fail
      refine HRes.out.mono ?_
      rintro e w' ⟨y, rfl, hy⟩
      have HY := veil hy
      clear hy
      go_wp2_with fail
      go_ret
      exact ⟨_, rfl, HY.out⟩
  · have hc' : sgn l i (ByteArray.mk #[44]).data.toList = true := hc
    rw [hc'] at q1
    have q1' : RdAt B l (i + 1) w2 := q1
    have HRes := veil (HC.out hc g' cap' w w2 HG.out HM2.out q1')
    have co := HXo.out.later hk2
    have cn := HXn.out.later hk2
    have e1 := HE1.out
    try rw [hc']
    clear q1 q1' q2 hc hc' hk2 cr
    go_wp2_with fail
    refine HRes.out.mono ?_
    rintro e w' ⟨y, rfl, hy⟩
    have HY := veil hy
    clear hy
    go_wp2_with fail
    go_ret
    exact ⟨_, rfl, HY.out⟩

end Go.Proofs.YtagbaimfigljiaaGreatDoor
namespace Go.Proofs.YtagbaimfigljiaaGreatDoor
open Go.RowKit
set_option maxRecDepth 100000

/-- the cells of a function whose parts lie in S. -/
def FuC (S : Nat → Prop) (W : World) (x : Fu) (cs : List Value) : Prop := ∃ vp1 vp2 vp3 k f n va1 va2 va3 k' n' f' s' ve1 ve2 ve3, cs = [.string x.name, .string x.var, .slice vp1 vp2 vp3, .int .i64 k, .string f, .string n, .slice va1 va2 va3, .int .i64 k', .int .i64 n', .string f', .string s', .slice ve1 ve2 ve3] ∧
  x.name.size ≤ maxLen ∧ x.var.size ≤ maxLen ∧ SlAt S (FdAt S W) 5 x.params (.slice vp1 vp2 vp3) ∧ TyCs S W x.result k f n (.slice va1 va2 va3) ∧ ExCs S W x.body k' n' f' s' (.slice ve1 ve2 ve3)

theorem fuC_keep {S S' : Nat → Prop} {W W' : World} {x : Fu} {cs : List Value} (hk : Keeps S S' W W') (h : FuC S W x cs) : FuC S' W' x cs := by
  obtain ⟨vp1, vp2, vp3, k, f, n, va1, va2, va3, k', n', f', s', ve1, ve2, ve3, rfl, h1, h2, h3, h4, h5⟩ := h
  exact ⟨vp1, vp2, vp3, k, f, n, va1, va2, va3, k', n', f', s', ve1, ve2, ve3, rfl, h1, h2, fdSl_keep hk h3, h4.keep hk, h5.keep hk⟩

theorem fuC_at {S : Nat → Prop} {W : World} {x : Fu} {cs : List Value} {b o : Nat} (h : FuC S W x cs) (hc : ∀ t u, cs[t]? = some u → W.cell? ⟨b, o + t, none⟩ = some u) : FuAt S W x b o := by
  obtain ⟨vp1, vp2, vp3, k, f, n, va1, va2, va3, k', n', f', s', ve1, ve2, ve3, rfl, h1, h2, h3, h4, h5⟩ := h
  exact ⟨⟨hc 0 _ rfl, h1⟩, ⟨hc 1 _ rfl, h2⟩, ⟨_, hc 2 _ rfl, h3⟩, tyAt_cells.2 ⟨k, f, n, _, hc 3 _ rfl, hc 4 _ rfl, hc 5 _ rfl, hc 6 _ rfl, h4⟩, exAt_cells.2 ⟨k', n', f', s', _, hc 7 _ rfl, hc 8 _ rfl, hc 9 _ rfl, hc 10 _ rfl, hc 11 _ rfl, h5⟩⟩

/-- the cell of a text. -/
def StC (_ : Nat → Prop) (_ : World) (x : ByteArray) (cs : List Value) : Prop := cs = [.string x] ∧ x.size ≤ maxLen

theorem stC_keep {S S' : Nat → Prop} {W W' : World} {x : ByteArray} {cs : List Value} (_ : Keeps S S' W W') (h : StC S W x cs) : StC S' W' x cs := h
theorem stC_at {S : Nat → Prop} {W : World} {x : ByteArray} {cs : List Value} {b o : Nat} (h : StC S W x cs) (hc : ∀ t u, cs[t]? = some u → W.cell? ⟨b, o + t, none⟩ = some u) : StrAt W x b o := by
  obtain ⟨rfl, h⟩ := h
  exact ⟨hc 0 _ rfl, h⟩

section
variable {α : Type} (C : (Nat → Prop) → World → α → List Value → Prop) (T : TypeId) (c : Nat)

/-- a row of elements whose parts lie in S; it is older than block n1. -/
structure RowIs (base n1 : Nat) (S : Nat → Prop) (xs : List α) (v : Value) (ys : List Value) (W : World) : Prop where
  own : W.ownsRow base T c v xs.length ys
  old : ∀ g, v.ownBlock = some g → g < n1
  items : ∀ j (hj : j < xs.length), ∃ cs, cs.length = c ∧ (∀ t, t < c → ys[j * c + t]? = cs[t]?) ∧ C S W xs[j] cs

variable {C T c}

theorem RowIs.keep (hC : ∀ {S S' : Nat → Prop} {W W' : World} {x : α} {cs : List Value}, Keeps S S' W W' → C S W x cs → C S' W' x cs) {base n1 n2 : Nat} {S S' : Nat → Prop} {xs : List α} {v : Value} {ys : List Value} {W W' : World} (h : RowIs C T c base n1 S xs v ys W)
    (hk : Keeps S S' W W') (hrow : ∀ g, v.ownBlock = some g → W'.heap[g]? = W.heap[g]?) (hn : n1 ≤ n2) : RowIs C T c base n2 S' xs v ys W' := by
  refine ⟨⟨h.own.1, h.own.2.imp_right ?_⟩, fun g hg => Nat.lt_of_lt_of_le (h.old g hg) hn, fun j hj => ?_⟩
  · rintro ⟨g, cap, cur, rfl, hb, hg, hr⟩
    exact ⟨g, cap, cur, rfl, hb, (hrow g rfl).trans hg, hr⟩
  · obtain ⟨cs, h1, h2, h3⟩ := h.items j hj
    exact ⟨cs, h1, h2, hC hk h3⟩

theorem RowIs.push (hC : ∀ {S S' : Nat → Prop} {W W' : World} {x : α} {cs : List Value}, Keeps S S' W W' → C S W x cs → C S' W' x cs) {base n1 n2 : Nat} {S S' : Nat → Prop} {xs : List α} {x : α} {v v' : Value} {ys cs : List Value} {W W' : World} (h : RowIs C T c base n1 S xs v ys W)
    (hk : Keeps S S' W W') (hown : W'.ownsRow base T c v' (xs.length + 1) (ys ++ cs)) (hold : ∀ g, v'.ownBlock = some g → g < n2) (hcs : cs.length = c) (hx : C S' W' x cs) : RowIs C T c base n2 S' (xs ++ [x]) v' (ys ++ cs) W' := by
  have e : (xs ++ [x]).length = xs.length + 1 := by simp
  have hyl : ys.length = xs.length * c := h.own.1
  refine ⟨by rw [e]; exact hown, hold, fun j hj => ?_⟩
  by_cases hjx : j < xs.length
  · obtain ⟨c', h1, h2, h3⟩ := h.items j hjx
    refine ⟨c', h1, fun t ht => ?_, ?_⟩
    · have hle : (j + 1) * c ≤ xs.length * c := Nat.mul_le_mul_right c hjx
      rw [Nat.add_mul, Nat.one_mul] at hle
      rw [List.getElem?_append_left (by omega)]
      exact h2 t ht
    · rw [List.getElem_append_left hjx]
      exact hC hk h3
  · have hje : j = xs.length := by omega
    subst hje
    refine ⟨cs, hcs, fun t _ => ?_, ?_⟩
    · rw [List.getElem?_append_right (by omega), hyl]
      congr 1
      omega
    · rw [List.getElem_append_right (Nat.le_refl _)]
      simp only [Nat.sub_self, List.getElem_cons_zero]
      exact hx

theorem RowIs.toSl {P : α → Nat → Nat → Prop} {S : Nat → Prop} {base n1 n0 : Nat} {xs : List α} {v : Value} {ys : List Value} {W : World} {S0 : Nat → Prop}
    (hP : ∀ {x : α} {cs : List Value} {b o : Nat}, C S0 W x cs → (∀ t u, cs[t]? = some u → W.cell? ⟨b, o + t, none⟩ = some u) → P x b o) (h : RowIs C T c base n1 S0 xs v ys W) (hS : ∀ b, base ≤ b → b < W.heap.size → S b) (_ : n0 ≤ base) (hmax : xs.length ≤ maxLen) : SlAt S P c xs v := by
  rcases h.own.2 with ⟨h1, h2⟩ | ⟨g, cap, cur, h1, hb, hg, h3, _⟩
  · subst h1
    exact ⟨none, 0, by rw [h2], ⟨hmax, by omega⟩, Or.inl h2⟩
  · subst h1
    have hin := ownsRow_in h.own g rfl
    refine ⟨_, cap, rfl, ⟨hmax, h3⟩, Or.inr ⟨g, 0, rfl, hS g hin.1 hin.2, RowAt.mk fun j hj => ?_⟩⟩
    obtain ⟨cs, h1, h2, h3⟩ := h.items j hj
    refine hP h3 (fun t u hu => ?_)
    have ht : t < c := by rw [← h1]; exact (List.getElem?_eq_some_iff.1 hu).1
    rw [Nat.zero_add]
    exact own_cell h.own _ _ ((h2 t ht).trans hu)

end

/-- the blocks where the parts of a module lie. -/
def MParts (base n1 : Nat) (vu vt vf : Value) (b : Nat) : Prop := base ≤ b ∧ b < n1 ∧ vu.ownBlock ≠ some b ∧ vt.ownBlock ≠ some b ∧ vf.ownBlock ≠ some b

/-- the module in block M, all of it older than block n1. -/
structure ModAt (base M n1 : Nat) (mo : Mo) (vu vt vf : Value) (W : World) : Prop where
  mod : W.heap[M]? = some (.cells #[vu, vt, vf] 44 (0, 0))
  hM : M < base
  hb : base ≤ n1
  hn : n1 ≤ W.heap.size
  us : ∃ ys, RowIs StC 9 1 base n1 (MParts base n1 vu vt vf) mo.uses vu ys W
  ts : ∃ ys, RowIs FdC 101 5 base n1 (MParts base n1 vu vt vf) mo.types vt ys W
  fs : ∃ ys, RowIs FuC 89 12 base n1 (MParts base n1 vu vt vf) mo.funcs vf ys W

theorem ModAt.keep {base M n1 : Nat} {mo : Mo} {vu vt vf : Value} {W W' : World} (h : ModAt base M n1 mo vu vt vf W) (hb : Below n1 W W') : ModAt base M n1 mo vu vt vf W' := by
  obtain ⟨yu, hu⟩ := h.us
  obtain ⟨yt, ht⟩ := h.ts
  obtain ⟨yf, hf⟩ := h.fs
  have hk : Keeps (MParts base n1 vu vt vf) (MParts base n1 vu vt vf) W W' := ⟨fun b hb' => hb.block b hb'.2.1, fun _ h => h⟩
  have hM := h.hM
  have hbn := h.hb
  exact ⟨(hb.block M (by omega)).trans h.mod, h.hM, h.hb, Nat.le_trans h.hn hb.size, ⟨yu, RowIs.keep (C := StC) (fun hk h => stC_keep hk h) hu hk (fun g hg => hb.block g (hu.old g hg)) (Nat.le_refl _)⟩,
    ⟨yt, RowIs.keep (C := FdC) (fun hk h => fdC_keep hk h) ht hk (fun g hg => hb.block g (ht.old g hg)) (Nat.le_refl _)⟩, ⟨yf, RowIs.keep (C := FuC) (fun hk h => fuC_keep hk h) hf hk (fun g hg => hb.block g (hf.old g hg)) (Nat.le_refl _)⟩⟩

/-- rows of different types lie in different blocks. -/
theorem own_apart {W : World} {base c c' n n' : Nat} {T T' : TypeId} {v v' : Value} {ys ys' : List Value} (h : W.ownsRow base T c v n ys) (h' : W.ownsRow base T' c' v' n' ys') (hT : T ≠ T') {g : Nat} (hg : v.ownBlock = some g) : v'.ownBlock ≠ some g := by
  intro hg'
  rcases h.2 with ⟨rfl, _⟩ | ⟨g1, _, _, rfl, _, h1, _⟩
  · cases hg
  · rcases h'.2 with ⟨rfl, _⟩ | ⟨g2, _, _, rfl, _, h2, _⟩
    · cases hg'
    · have e1 : g1 = g := by simpa [Value.ownBlock] using hg
      have e2 : g2 = g := by simpa [Value.ownBlock] using hg'
      subst e1
      subst e2
      rw [h1] at h2
      injection h2 with h2
      injection h2 with _ h2
      exact hT h2

/-- from W to W' the list v of a module's block has become v'. -/
structure GrewM (base M o : Nat) (cells : Array Value) (T : TypeId) (c : Nat) (v v' : Value) (n : Nat) (ys : List Value) (W W' : World) : Prop where
  os : W'.os = W.os
  tape : W'.tape = W.tape
  output : W'.output = W.output
  size : W.heap.size ≤ W'.heap.size
  mod : W'.heap[M]? = some (.cells (cells.setIfInBounds o v') 44 (0, 0))
  own : W'.ownsRow base T c v' n ys
  rest : ∀ k, k < W.heap.size → k ≠ M → some k ≠ v.ownBlock → W'.heap[k]? = W.heap[k]?
  row : ∀ k, v'.ownBlock = some k → v.ownBlock = some k ∨ W.heap.size ≤ k

theorem grewM_store {base M o c : Nat} {cells : Array Value} {T : TypeId} {v : Value} {n g cap : Nat} {ys : List Value} {W W0 w1 : World} (hM : M < base) (hb : base ≤ W.heap.size)
    (h0 : W.heap.size ≤ W0.heap.size) (hos : W0.os = W.os) (htape : W0.tape = W.tape) (hout : W0.output = W.output) (hk : ∀ k, k < W.heap.size → W0.heap[k]? = W.heap[k]?)
    (hg : W0.grownBy w1 v.ownBlock) (hbox : W.heap[M]? = some (.cells cells 44 (0, 0))) (hbv : some M ≠ v.ownBlock) (hown : w1.ownsRow base T c (.slice (some ⟨g, 0, none⟩) n cap) n ys) (hat : v.ownBlock = some g ∨ W.heap.size ≤ g) :
    GrewM base M o cells T c v (.slice (some ⟨g, 0, none⟩) n cap) n ys W (w1.setCell ⟨M, o, none⟩ (.slice (some ⟨g, 0, none⟩) n cap)) := by
  have hMW : M < W.heap.size := by omega
  have hb1 : w1.heap[M]? = some (.cells cells 44 (0, 0)) := (hg.block M (by omega) hbv).trans ((hk M hMW).trans hbox)
  refine ⟨hg.os.trans hos, hg.tape.trans htape, hg.output.trans hout, ?_, ?_, ?_, ?_, ?_⟩
  · rw [heap_size_setCell]; exact Nat.le_trans h0 hg.size
  · exact block_set hb1 o _
  · exact ownsRow_setCell_below hown (a := ⟨M, o, none⟩) hM _
  · intro k hk' hne hrow
    rw [Below.heap_setCell _ _ _ _ (by show k ≠ M; exact hne), hg.block k (by omega) hrow, hk k hk']
  · intro k hk'
    have : g = k := by simpa [Value.ownBlock] using hk'
    subst this
    exact hat

theorem GrewM.below {base M o c : Nat} {cells : Array Value} {T : TypeId} {v v' : Value} {n n' : Nat} {ys ys' : List Value} {W W' : World} (h : GrewM base M o cells T c v v' n' ys' W W') (hown : W.ownsRow base T c v n ys) (hM : M < base) (hW : M ≤ W.heap.size) : Below M W W' :=
  ⟨h.os, h.tape, h.output, h.size, fun k hk => h.rest k (by omega) (by omega) (fun e => by have := ownsRow_in hown _ e.symm; omega)⟩

theorem ModAt.pushT {base M n1 : Nat} {mo : Mo} {vu vt vf : Value} {W W' : World} {x : Fd} {cs yt : List Value} {v' : Value} (h : ModAt base M n1 mo vu vt vf W) (hy : RowIs FdC 101 5 base n1 (MParts base n1 vu vt vf) mo.types vt yt W)
    (hg : GrewM base M 1 #[vu, vt, vf] 101 5 vt v' (mo.types.length + 1) (yt ++ cs) W W') (hcs : cs.length = 5) (hx : FdC (Fresh n1 W) W x cs) : ModAt base M W'.heap.size { mo with types := mo.types ++ [x] } vu v' vf W' := by
  obtain ⟨yu, hu⟩ := h.us
  obtain ⟨yf, hf⟩ := h.fs
  have hM := h.hM
  have hb := h.hb
  have hn := h.hn
  have hsz := hg.size
  have hk : Keeps (MParts base n1 vu vt vf) (MParts base W'.heap.size vu v' vf) W W' :=
    ⟨fun b hb' => hg.rest b (by have := hb'.2.1; omega) (by have := hb'.1; omega) (fun e => hb'.2.2.2.1 e.symm), fun b hb' => ⟨hb'.1, by have := hb'.2.1; omega, hb'.2.2.1, fun e => by
      rcases hg.row b e with h1 | h1
      · exact hb'.2.2.2.1 h1
      · have := hb'.2.1; omega, hb'.2.2.2.2⟩⟩
  have hkx : Keeps (Fresh n1 W) (MParts base W'.heap.size vu v' vf) W W' :=
    ⟨fun b hb' => hg.rest b hb'.2 (by have := hb'.1; omega) (fun e => by have := hy.old b e.symm; have := hb'.1; omega), fun b hb' => ⟨by have := hb'.1; omega, by have := hb'.2; omega, fun e => by have := hu.old b e; have := hb'.1; omega, fun e => by
      rcases hg.row b e with h1 | h1
      · have := hy.old b h1; have := hb'.1; omega
      · have := hb'.2; omega, fun e => by have := hf.old b e; have := hb'.1; omega⟩⟩
  refine ⟨hg.mod, hM, by omega, Nat.le_refl _, ⟨yu, RowIs.keep (C := StC) (fun hk h => stC_keep hk h) hu hk (fun g' hg' => ?_) (by omega)⟩, ⟨_, RowIs.push (C := FdC) (fun hk h => fdC_keep hk h) hy hk hg.own (fun g' hg' => (ownsRow_in hg.own g' hg').2) hcs (fdC_keep hkx hx)⟩, ⟨yf, RowIs.keep (C := FuC) (fun hk h => fuC_keep hk h) hf hk (fun g' hg' => ?_) (by omega)⟩⟩
  · have h1 := hu.old g' hg'
    have h2 := ownsRow_in hu.own g' hg'
    exact hg.rest g' (by omega) (by omega) (fun e => own_apart hu.own hy.own (by decide) hg' e.symm)
  · have h1 := hf.old g' hg'
    have h2 := ownsRow_in hf.own g' hg'
    exact hg.rest g' (by omega) (by omega) (fun e => own_apart hf.own hy.own (by decide) hg' e.symm)

theorem ModAt.pushF {base M n1 : Nat} {mo : Mo} {vu vt vf : Value} {W W' : World} {x : Fu} {cs yf : List Value} {v' : Value} (h : ModAt base M n1 mo vu vt vf W) (hy : RowIs FuC 89 12 base n1 (MParts base n1 vu vt vf) mo.funcs vf yf W)
    (hg : GrewM base M 2 #[vu, vt, vf] 89 12 vf v' (mo.funcs.length + 1) (yf ++ cs) W W') (hcs : cs.length = 12) (hx : FuC (Fresh n1 W) W x cs) : ModAt base M W'.heap.size { mo with funcs := mo.funcs ++ [x] } vu vt v' W' := by
  obtain ⟨yu, hu⟩ := h.us
  obtain ⟨yt, ht⟩ := h.ts
  have hM := h.hM
  have hb := h.hb
  have hn := h.hn
  have hsz := hg.size
  have hk : Keeps (MParts base n1 vu vt vf) (MParts base W'.heap.size vu vt v') W W' :=
    ⟨fun b hb' => hg.rest b (by have := hb'.2.1; omega) (by have := hb'.1; omega) (fun e => hb'.2.2.2.2 e.symm), fun b hb' => ⟨hb'.1, by have := hb'.2.1; omega, hb'.2.2.1, hb'.2.2.2.1, fun e => by
      rcases hg.row b e with h1 | h1
      · exact hb'.2.2.2.2 h1
      · have := hb'.2.1; omega⟩⟩
  have hkx : Keeps (Fresh n1 W) (MParts base W'.heap.size vu vt v') W W' :=
    ⟨fun b hb' => hg.rest b hb'.2 (by have := hb'.1; omega) (fun e => by have := hy.old b e.symm; have := hb'.1; omega), fun b hb' => ⟨by have := hb'.1; omega, by have := hb'.2; omega, fun e => by have := hu.old b e; have := hb'.1; omega, fun e => by have := ht.old b e; have := hb'.1; omega, fun e => by
      rcases hg.row b e with h1 | h1
      · have := hy.old b h1; have := hb'.1; omega
      · have := hb'.2; omega⟩⟩
  refine ⟨hg.mod, hM, by omega, Nat.le_refl _, ⟨yu, RowIs.keep (C := StC) (fun hk h => stC_keep hk h) hu hk (fun g' hg' => ?_) (by omega)⟩, ⟨yt, RowIs.keep (C := FdC) (fun hk h => fdC_keep hk h) ht hk (fun g' hg' => ?_) (by omega)⟩, ⟨_, RowIs.push (C := FuC) (fun hk h => fuC_keep hk h) hy hk hg.own (fun g' hg' => (ownsRow_in hg.own g' hg').2) hcs (fuC_keep hkx hx)⟩⟩
  · have h1 := hu.old g' hg'
    have h2 := ownsRow_in hu.own g' hg'
    exact hg.rest g' (by omega) (by omega) (fun e => own_apart hu.own hy.own (by decide) hg' e.symm)
  · have h1 := ht.old g' hg'
    have h2 := ownsRow_in ht.own g' hg'
    exact hg.rest g' (by omega) (by omega) (fun e => own_apart ht.own hy.own (by decide) hg' e.symm)

theorem ModAt.pushU {base M n1 : Nat} {mo : Mo} {vu vt vf : Value} {W W' : World} {x : ByteArray} {yu : List Value} {v' : Value} (h : ModAt base M n1 mo vu vt vf W) (hy : RowIs StC 9 1 base n1 (MParts base n1 vu vt vf) mo.uses vu yu W)
    (hg : GrewM base M 0 #[vu, vt, vf] 9 1 vu v' (mo.uses.length + 1) (yu ++ [.string x]) W W') (hx : x.size ≤ maxLen) : ModAt base M W'.heap.size { mo with uses := mo.uses ++ [x] } v' vt vf W' := by
  obtain ⟨yt, ht⟩ := h.ts
  obtain ⟨yf, hf⟩ := h.fs
  have hM := h.hM
  have hb := h.hb
  have hn := h.hn
  have hsz := hg.size
  have hk : Keeps (MParts base n1 vu vt vf) (MParts base W'.heap.size v' vt vf) W W' :=
    ⟨fun b hb' => hg.rest b (by have := hb'.2.1; omega) (by have := hb'.1; omega) (fun e => hb'.2.2.1 e.symm), fun b hb' => ⟨hb'.1, by have := hb'.2.1; omega, fun e => by
      rcases hg.row b e with h1 | h1
      · exact hb'.2.2.1 h1
      · have := hb'.2.1; omega, hb'.2.2.2.1, hb'.2.2.2.2⟩⟩
  refine ⟨hg.mod, hM, by omega, Nat.le_refl _, ⟨_, RowIs.push (C := StC) (fun hk h => stC_keep hk h) hy hk hg.own (fun g' hg' => (ownsRow_in hg.own g' hg').2) rfl ⟨rfl, hx⟩⟩, ⟨yt, RowIs.keep (C := FdC) (fun hk h => fdC_keep hk h) ht hk (fun g' hg' => ?_) (by omega)⟩, ⟨yf, RowIs.keep (C := FuC) (fun hk h => fuC_keep hk h) hf hk (fun g' hg' => ?_) (by omega)⟩⟩
  · have h1 := ht.old g' hg'
    have h2 := ownsRow_in ht.own g' hg'
    exact hg.rest g' (by omega) (by omega) (fun e => own_apart ht.own hy.own (by decide) hg' e.symm)
  · have h1 := hf.old g' hg'
    have h2 := ownsRow_in hf.own g' hg'
    exact hg.rest g' (by omega) (by omega) (fun e => own_apart hf.own hy.own (by decide) hg' e.symm)

/-- a module that lies so is a module's value. -/
theorem ModAt.is {base M n1 : Nat} {mo : Mo} {vu vt vf : Value} {W : World} (h : ModAt base M n1 mo vu vt vf W) (h1 : mo.uses.length ≤ maxLen) (h2 : mo.types.length ≤ maxLen) (h3 : mo.funcs.length ≤ maxLen) : MoIs (Fresh base W) W mo (.agg #[vu, vt, vf]) := by
  obtain ⟨yu, hu⟩ := h.us
  obtain ⟨yt, ht⟩ := h.ts
  obtain ⟨yf, hf⟩ := h.fs
  have hn := h.hn
  have hk : Keeps (MParts base n1 vu vt vf) (Fresh base W) W W := ⟨fun _ _ => rfl, fun b hb => ⟨hb.1, by have := hb.2.1; omega⟩⟩
  exact ⟨vu, vt, vf, rfl, hu.toSl (n0 := 0) (fun hc h => stC_at hc h) (fun b h1 h2 => ⟨h1, h2⟩) (Nat.zero_le _) h1, ht.toSl (n0 := 0) (fun hc h => fdC_at (by obtain ⟨_, _, _, _, _, _, rfl, _⟩ := hc; rfl) (fdC_keep hk hc) h) (fun b h1 h2 => ⟨h1, h2⟩) (Nat.zero_le _) h2,
    hf.toSl (n0 := 0) (fun hc h => fuC_at (fuC_keep hk hc) h) (fun b h1 h2 => ⟨h1, h2⟩) (Nat.zero_le _) h3⟩

end Go.Proofs.YtagbaimfigljiaaGreatDoor
