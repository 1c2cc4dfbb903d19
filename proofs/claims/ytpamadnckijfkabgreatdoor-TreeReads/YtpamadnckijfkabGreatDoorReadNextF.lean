/- What the reader's list of fields does with what was read: it is laid behind the ones ahead. -/
import Derived.Test.YtpamadnckijfkabGreatDoorReadNext
import Derived.Test.YtpamadnckijfkabGreatDoorReadNamed
namespace Go.Proofs.YtpamadnckijfkabGreatDoor
open Go.RowKit
set_option maxRecDepth 100000

theorem fd_info : (Tryz.prog.info? 63).map (fun i => (i.zero, i.size, i.bytes)) = some (some (.agg #[.string ⟨#[]⟩, .int .i64 0, .string ⟨#[]⟩, .string ⟨#[]⟩, .slice none 0 0]), 5, 80) := by kernel_rfl

/-- the cells of a field whose parts lie in S. -/
def FdC (S : Nat → Prop) (W : World) (x : Fd) (cs : List Value) : Prop := ∃ k f n va1 va2 va3, cs = [.string x.name, .int .i64 k, .string f, .string n, .slice va1 va2 va3] ∧ x.name.size ≤ maxLen ∧ TyCs S W x.is k f n (.slice va1 va2 va3)

theorem fdC_keep {S S' : Nat → Prop} {W W' : World} {x : Fd} {cs : List Value} (hk : Keeps S S' W W') (h : FdC S W x cs) : FdC S' W' x cs := by
  obtain ⟨k, f, n, va1, va2, va3, rfl, hs, h⟩ := h
  exact ⟨k, f, n, va1, va2, va3, rfl, hs, h.keep hk⟩

theorem fdC_at {S : Nat → Prop} {W : World} {x : Fd} {cs : List Value} {b o : Nat} (_ : cs.length = 5) (h : FdC S W x cs) (hc : ∀ t u, cs[t]? = some u → W.cell? ⟨b, o + t, none⟩ = some u) : FdAt S W x b o := by
  obtain ⟨k, f, n, va1, va2, va3, rfl, hs, h⟩ := h
  exact ⟨⟨hc 0 _ rfl, hs⟩, tyAt_cells.2 ⟨k, f, n, _, hc 1 _ rfl, hc 2 _ rfl, hc 3 _ rfl, hc 4 _ rfl, h⟩⟩

set_option maxHeartbeats 8000000 in
theorem nextF_step (bl br bo bn be bk base : Nat) (la : Option Addr) (lcap m : Nat) (xs : List Value) (nm : ByteArray) (k : Int) (f s : ByteArray) (va1 : Option Addr) (va2 va3 : Nat) (W : World)
    (B : Nat) (l : Toks) (i : Nat) (fin : ByteArray) (g1 g : Nat) (lb1 lb : Array Value) (e1 : ∀ args w, (callFunc g1 args).run Tryz.prog w = .ok (.enter g1 args) w) (eg : ∀ args w, (callFunc g args).run Tryz.prog w = .ok (.enter g args) w) (R : Int → World → Prop) (Wb : World) (caps : Array Value)
    (hl : W.heap[bl]? = some (.cells #[.slice la m lcap] 23 (0, 0))) (hown : W.ownsRow base 63 5 (.slice la m lcap) m xs) (hbase : base ≤ W.heap.size) (hbl : bl < base)
    (hn : m + 1 ≤ maxLen) (hb : (m + 1) * 80 ≤ 140737488355328) (hB : B < bl) (hr : RdAt B l i W) (hkept : Kept B bl base Wb W)
    (xr : LBox B bl base br (.pointer (some ⟨B, 0, none⟩)) Wb) (xo : LBox B bl base bo (.func (.func g1) #[] lb1) Wb) (xn : LBox B bl base bn (.func (.func 133) #[] caps) Wb) (xe : LBox B bl base be (.string fin) Wb) (xk : LBox B bl base bk (.func (.func g) #[] lb) Wb)
    (hcomma : sgn l i [44] = true → ∀ g' cap' w w', Grew base bl 63 23 (.slice la m lcap) (.slice (some ⟨g', 0, none⟩) (m + 1) cap') (m + 1) (xs ++ [.string nm, .int .i64 k, .string f, .string s, .slice va1 va2 va3]) W w → Moved B w w' → RdAt B l (i + 1) w' → Calls Tryz.prog g1 (#[.func (.func 133) #[] caps] ++ lb1) w' (Ends R))
    (hfin : sgn l i [44] = false → sgn l i fin.data.toList = true → ∀ g' cap' w w', Grew base bl 63 23 (.slice la m lcap) (.slice (some ⟨g', 0, none⟩) (m + 1) cap') (m + 1) (xs ++ [.string nm, .int .i64 k, .string f, .string s, .slice va1 va2 va3]) W w → Moved B w w' → RdAt B l (i + 1) w' → Calls Tryz.prog g (#[.slice (some ⟨g', 0, none⟩) (m + 1) cap'] ++ lb) w' (Ends R))
    (hno : sgn l i [44] = false → sgn l i fin.data.toList = false → ∀ g' cap' w w', Grew base bl 63 23 (.slice la m lcap) (.slice (some ⟨g', 0, none⟩) (m + 1) cap') (m + 1) (xs ++ [.string nm, .int .i64 k, .string f, .string s, .slice va1 va2 va3]) W w → Moved B w w' → R 4 w') :
    Calls Tryz.prog 133 #[.agg #[.string nm, .int .i64 k, .string f, .string s, .slice va1 va2 va3], .pointer (some ⟨bl, 0, none⟩), .pointer (some ⟨br, 0, none⟩), .pointer (some ⟨bo, 0, none⟩), .pointer (some ⟨bn, 0, none⟩), .pointer (some ⟨be, 0, none⟩), .pointer (some ⟨bk, 0, none⟩)] W (Ends R) := by
  have HC := veil hcomma
  have HF0 := veil hfin
  have HN0 := veil hno
  have HKp := veil hkept
  have HRd := veil hr
  have HXr := veil xr
  have HXo := veil xo
  have HXn := veil xn
  have HXe := veil xe
  have HXk := veil xk
  have HE1 := veil e1
  have HEg := veil eg
  have HB0 := veil hB
  clear hcomma hfin hno hkept hr xr xo xn xe xk e1 eg hB
  obtain ⟨i0, hi0, hz0, hz1, hz2⟩ := info_parts fd_info
  have HI0 := veil hi0
  have HZ0 := veil hz0
  have HZ1 := veil hz1
  have HZ2 := veil hz2
  have HL := veil hl
  have HOwn := veil hown
  have HBase := veil hbase
  have HBl := veil hbl
  have HNl := veil hn
  have HBy := veil hb
  have hblW : bl < W.heap.size := Nat.lt_of_lt_of_le hbl hbase
  clear hl hown hbase hbl hn hb hi0 hz0 hz1 hz2
  have hcl : W.cell? ⟨bl, 0, none⟩ = some (.slice la m lcap) := by rw [cell_of_row W bl 0 _ _ _ HL.out]; rfl
  have HNews : Hid (∀ j u, ([.string nm, .int .i64 k, .string f, .string s, .slice va1 va2 va3] : List Value)[j]? = some u → ((W.alloc (.cells #[.string nm, .int .i64 k, .string f, .string s, .slice va1 va2 va3] 63)).alloc (.cells #[.string nm, .int .i64 k, .string f, .string s, .slice va1 va2 va3] 63)).cell? ((⟨W.heap.size + 1, 0, none⟩ : Addr).add j) = some u) := by
    refine World.news_of_block (cs := #[.string nm, .int .i64 k, .string f, .string s, .slice va1 va2 va3]) (t := 63) (fr := (0, 0)) ?_
    have h := heap_alloc_new (W.alloc (.cells #[.string nm, .int .i64 k, .string f, .string s, .slice va1 va2 va3] 63)) (.cells #[.string nm, .int .i64 k, .string f, .string s, .slice va1 va2 va3] 63)
    rw [show (W.alloc (.cells #[.string nm, .int .i64 k, .string f, .string s, .slice va1 va2 va3] 63)).heap.size = W.heap.size + 1 by simp] at h
    exact h
  have HOne : Hid (∀ u ∈ ([.string nm, .int .i64 k, .string f, .string s, .slice va1 va2 va3] : List Value), u.oneCell' = true) := by intro u hu; simp at hu; rcases hu with rfl | rfl | rfl | rfl | rfl <;> rfl
  have HH : Hid (((W.alloc (.cells #[.string nm, .int .i64 k, .string f, .string s, .slice va1 va2 va3] 63)).alloc (.cells #[.string nm, .int .i64 k, .string f, .string s, .slice va1 va2 va3] 63)).heap.size = W.heap.size + 2) := by show _ = _; simp
  have HBs : Hid (base ≤ ((W.alloc (.cells #[.string nm, .int .i64 k, .string f, .string s, .slice va1 va2 va3] 63)).alloc (.cells #[.string nm, .int .i64 k, .string f, .string s, .slice va1 va2 va3] 63)).heap.size) := by show _ ≤ _; rw [HH.out]; have := HBase.out; omega
  have HFarB : Hid (some bl ≠ (Value.slice la m lcap).ownBlock) := fun h => by have := ownsRow_in HOwn.out _ h.symm; have := HBl.out; omega
  have HOld : Hid (∀ k', k' < W.heap.size → ((W.alloc (.cells #[.string nm, .int .i64 k, .string f, .string s, .slice va1 va2 va3] 63)).alloc (.cells #[.string nm, .int .i64 k, .string f, .string s, .slice va1 va2 va3] 63)).heap[k']? = W.heap[k']?) := by
    intro k' hk'
    rw [heap_alloc_old _ _ (by simp; omega), heap_alloc_old _ _ (by omega)]
  have HC2 : Hid (∀ w1, ((W.alloc (.cells #[.string nm, .int .i64 k, .string f, .string s, .slice va1 va2 va3] 63)).alloc (.cells #[.string nm, .int .i64 k, .string f, .string s, .slice va1 va2 va3] 63)).grownBy w1 (Value.slice la m lcap).ownBlock → w1.cell? ⟨bl, 0, none⟩ = some (.slice la m lcap) ∧ w1.frozen? ⟨bl, 0, none⟩ = false) := by
    intro w1 hg
    have hb1 : w1.heap[bl]? = some (.cells #[.slice la m lcap] 23 (0, 0)) := (hg.block bl (by rw [HH.out]; omega) HFarB.out).trans ((HOld.out bl hblW).trans HL.out)
    exact ⟨by rw [cell_of_row w1 bl 0 _ _ _ hb1]; rfl, Lib.frozen_of_heap hb1 0⟩
  have HGr : Hid (∀ g' cap' w1, w1.ownsRow base 63 5 (.slice (some ⟨g', 0, none⟩) (m + 1) cap') (m + 1) (xs ++ [.string nm, .int .i64 k, .string f, .string s, .slice va1 va2 va3]) → ((W.alloc (.cells #[.string nm, .int .i64 k, .string f, .string s, .slice va1 va2 va3] 63)).alloc (.cells #[.string nm, .int .i64 k, .string f, .string s, .slice va1 va2 va3] 63)).grownBy w1 (Value.slice la m lcap).ownBlock → ((Value.slice la m lcap).ownBlock = some g' ∨ g' = W.heap.size + 2) → Grew base bl 63 23 (.slice la m lcap) (.slice (some ⟨g', 0, none⟩) (m + 1) cap') (m + 1) (xs ++ [.string nm, .int .i64 k, .string f, .string s, .slice va1 va2 va3]) W (w1.setCell ⟨bl, 0, none⟩ (.slice (some ⟨g', 0, none⟩) (m + 1) cap'))) := fun g' cap' w1 ho hg hat =>
    grew_store (W0 := (W.alloc (.cells #[.string nm, .int .i64 k, .string f, .string s, .slice va1 va2 va3] 63)).alloc (.cells #[.string nm, .int .i64 k, .string f, .string s, .slice va1 va2 va3] 63)) HBl.out HBase.out (by rw [HH.out]; omega) rfl rfl rfl HOld.out hg HL.out HFarB.out ho (hat.imp_right (fun h => by omega))
  go_enter Tryz.func133, Tryz.ntmps133
  go_wp2_with (at_builtin; refine wpList_append_lies _ rfl _ _ 23 rfl base 63 i0 _ 5 80 Tryz.underlying23 HI0.out HZ0.out HZ1.out HZ2.out rfl (by decide) (.slice la m lcap) m xs rfl ((HOwn.out.alloc _).alloc _) ⟨W.heap.size + 1, 0, none⟩ 1 1 [.string nm, .int .i64 k, .string f, .string s, .slice va1 va2 va3] rfl rfl HNews.out HOne.out (by decide) HNl.out HBy.out HBs.out (W.heap.size + 2) HH.out (fun g' cap' w1 hown1 hgrow hat hlt => ?_); obtain ⟨hc2, hf2⟩ := HC2.out w1 hgrow; have HG0 := veil (HGr.out g' cap' w1 hown1 hgrow hat); have cr := HXr.out.later (HKp.out.grew HG0.out HOwn.out HB0.out HBl.out); clear hown1 hgrow hat hlt)
  have hG := HG0.out
  generalize w1.setCell ⟨bl, 0, none⟩ (.slice (some ⟨g', 0, none⟩) (m + 1) cap') = w at *
  have HG := veil hG
  have HR1 := veil (rd_grew HRd.out hG HOwn.out HB0.out HBl.out)
  have hk1 := HKp.out.grew hG HOwn.out HB0.out HBl.out
  have HK1 := veil hk1
  have HBox : Hid (w.cell? ⟨bl, 0, none⟩ = some (.slice (some ⟨g', 0, none⟩) (m + 1) cap')) := by
    show _ = _
    rw [cell_of_row w bl 0 _ _ _ hG.box]; rfl
  have HBlW := veil (heap_lt hG.box)
  clear hG hk1
  refine (sign_next B l i ⟨#[44]⟩ _ HR1.out).mono ?_
  rintro e w2 ⟨rfl, q1, q2⟩
  have HM2 := veil q2
  have hk2 := HK1.out.moved q2
  have HK2 := veil hk2
  cases hc : sgn l i [44]
  · have hc' : sgn l i (ByteArray.mk #[44]).data.toList = false := hc
    rw [hc'] at q1
    have HR2 : Hid (RdAt B l i w2) := q1
    have HC0 := veil hc
    have cr2 := HXr.out.later hk2
    have ce2 := HXe.out.later hk2
    try rw [hc']
    clear q1 q2 hc hc' hk2 cr
    go_wp2_with fail
    refine (sign_next B l i fin _ HR2.out).mono ?_
    rintro e w3 ⟨rfl, q1, q2⟩
    have HM3 := veil (HM2.out.trans q2)
    have hk3 := HK2.out.moved q2
    cases hf : sgn l i fin.data.toList
    · have HRes := veil (HN0.out HC0.out hf g' cap' w w3 HG.out HM3.out)
      try rw [hf]
      clear q1 q2 hf hk3 cr2 ce2
      go_wp2_with fail
      go_ret
      exact ⟨_, rfl, HRes.out⟩
    · rw [hf] at q1
      have q1' : RdAt B l (i + 1) w3 := q1
      have HRes := veil (HF0.out HC0.out hf g' cap' w w3 HG.out HM3.out q1')
      have ck3 := HXk.out.later hk3
      have cl3 : w3.cell? ⟨bl, 0, none⟩ = some (.slice (some ⟨g', 0, none⟩) (m + 1) cap') := (HM3.out.cell HB0.out HBlW.out 0).trans HBox.out
      have eg := HEg.out
      try rw [hf]
      clear q1 q1' q2 hf hk3 cr2 ce2
      go_wp2_with fail
      refine HRes.out.mono ?_
      rintro e w' ⟨y, rfl, hy⟩
      have HY := veil hy
      clear hy
      go_wp2_with fail
      go_ret
      exact ⟨_, rfl, HY.out⟩
  · have hc' : sgn l i (ByteArray.mk #[44]).data.toList = true := hc
    rw [hc'] at q1
    have q1' : RdAt B l (i + 1) w2 := q1
    have HRes := veil (HC.out hc g' cap' w w2 HG.out HM2.out q1')
    have co := HXo.out.later hk2
    have cn := HXn.out.later hk2
    have e1 := HE1.out
    try rw [hc']
    clear q1 q1' q2 hc hc' hk2 cr
    go_wp2_with fail
    refine HRes.out.mono ?_
    rintro e w' ⟨y, rfl, hy⟩
    have HY := veil hy
    clear hy
    go_wp2_with fail
    go_ret
    exact ⟨_, rfl, HY.out⟩

end Go.Proofs.YtpamadnckijfkabGreatDoor
