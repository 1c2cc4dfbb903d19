import Derived.Test.YtagbaimfigljiaaGreatDoorJCk3
import Derived.Test.YtagbaimfigljiaaGreatDoorJCk2
namespace Go.Proofs.YtagbaimfigljiaaGreatDoor
open Go.RowKit
set_option maxRecDepth 100000

theorem exT_size : (Tryz.prog.info? 87).map (·.size) = some 5 := by kernel_rfl

/-- the cells of an expression whose parts lie in S. -/
def ExC (S : Nat → Prop) (W : World) (x : Ex) (cs : List Value) : Prop := ∃ k n f s va1 va2 va3, cs = [.int .i64 k, .int .i64 n, .string f, .string s, .slice va1 va2 va3] ∧ ExCs S W x k n f s (.slice va1 va2 va3)

theorem exC_keep {S S' : Nat → Prop} {W W' : World} {x : Ex} {cs : List Value} (hk : Keeps S S' W W') (h : ExC S W x cs) : ExC S' W' x cs := by
  obtain ⟨k, n, f, s, va1, va2, va3, rfl, h⟩ := h
  exact ⟨k, n, f, s, va1, va2, va3, rfl, h.keep hk⟩

theorem exC_at {S : Nat → Prop} {W : World} {x : Ex} {cs : List Value} {b o : Nat} (_ : cs.length = 5) (h : ExC S W x cs) (hc : ∀ t u, cs[t]? = some u → W.cell? ⟨b, o + t, none⟩ = some u) : ExAt S W x b o := by
  obtain ⟨k, n, f, s, va1, va2, va3, rfl, h⟩ := h
  exact exAt_cells.2 ⟨k, n, f, s, _, hc 0 _ rfl, hc 1 _ rfl, hc 2 _ rfl, hc 3 _ rfl, hc 4 _ rfl, h⟩

/-- a box of the list's frame. -/
structure LBox (B bl base c : Nat) (v : Value) (W : World) : Prop where
  cell : W.cell? ⟨c, 0, none⟩ = some v
  lo : B < c
  hi : c < base
  ne : c ≠ bl

theorem LBox.later {B bl base c : Nat} {v : Value} {Wb W : World} (h : LBox B bl base c v Wb) (hk : Kept B bl base Wb W) : W.cell? ⟨c, 0, none⟩ = some v := (hk.cell h.lo h.hi h.ne 0).trans h.cell

/-- what comes of a list where x stands behind xs. -/
def nextRes {α : Type} (sub : Nat → Res α) (l : Toks) (fin : List UInt8) (n : Nat) (xs : List α) (x : α) (i : Nat) : Res (List α) :=
  if sgn l i [44] = true then pList sub l fin n (xs ++ [x]) (i + 1) else if sgn l i fin = true then .ok (xs ++ [x]) (i + 1) else .bad 4

theorem pList_bad {α : Type} {sub : Nat → Res α} {l : Toks} {fin : List UInt8} {n : Nat} {acc : List α} {i : Nat} {e : Int} (h : sub i = .bad e) : pList sub l fin (n + 1) acc i = .bad e := by rw [pList, h]
theorem pList_ok {α : Type} {sub : Nat → Res α} {l : Toks} {fin : List UInt8} {n : Nat} {acc : List α} {i : Nat} {x : α} {j : Nat} (h : sub i = .ok x j) : pList sub l fin (n + 1) acc i = nextRes sub l fin n acc x j := by rw [pList, h]; rfl

set_option maxHeartbeats 8000000 in
theorem next_step (bl br bo bn be bk base : Nat) (la : Option Addr) (lcap m : Nat) (xs : List Value) (k n : Int) (f s : ByteArray) (va1 : Option Addr) (va2 va3 : Nat) (W : World)
    (B : Nat) (l : Toks) (i : Nat) (fin : ByteArray) (g1 g : Nat) (lb1 lb : Array Value) (e1 : ∀ args w, (callFunc g1 args).run Tryz.prog w = .ok (.enter g1 args) w) (eg : ∀ args w, (callFunc g args).run Tryz.prog w = .ok (.enter g args) w) (R : Int → World → Prop) (Wb : World) (caps : Array Value)
    (hl : W.heap[bl]? = some (.cells #[.slice la m lcap] 85 (0, 0))) (hown : W.ownsRow base 87 5 (.slice la m lcap) m xs) (hbase : base ≤ W.heap.size) (hbl : bl < base)
    (hn : m + 1 ≤ maxLen) (hb : (m + 1) * 72 ≤ 140737488355328) (hB : B < bl) (hr : RdAt B l i W) (hkept : Kept B bl base Wb W)
    (xr : LBox B bl base br (.pointer (some ⟨B, 0, none⟩)) Wb) (xo : LBox B bl base bo (.func (.func g1) #[] lb1) Wb) (xn : LBox B bl base bn (.func (.func 358) #[] caps) Wb) (xe : LBox B bl base be (.string fin) Wb) (xk : LBox B bl base bk (.func (.func g) #[] lb) Wb)
    (hcomma : sgn l i [44] = true → ∀ g' cap' w w', Grew base bl 87 85 (.slice la m lcap) (.slice (some ⟨g', 0, none⟩) (m + 1) cap') (m + 1) (xs ++ [.int .i64 k, .int .i64 n, .string f, .string s, .slice va1 va2 va3]) W w → Moved B w w' → RdAt B l (i + 1) w' → Calls Tryz.prog g1 (#[.func (.func 358) #[] caps] ++ lb1) w' (Ends R))
    (hfin : sgn l i [44] = false → sgn l i fin.data.toList = true → ∀ g' cap' w w', Grew base bl 87 85 (.slice la m lcap) (.slice (some ⟨g', 0, none⟩) (m + 1) cap') (m + 1) (xs ++ [.int .i64 k, .int .i64 n, .string f, .string s, .slice va1 va2 va3]) W w → Moved B w w' → RdAt B l (i + 1) w' → Calls Tryz.prog g (#[.slice (some ⟨g', 0, none⟩) (m + 1) cap'] ++ lb) w' (Ends R))
    (hno : sgn l i [44] = false → sgn l i fin.data.toList = false → ∀ g' cap' w w', Grew base bl 87 85 (.slice la m lcap) (.slice (some ⟨g', 0, none⟩) (m + 1) cap') (m + 1) (xs ++ [.int .i64 k, .int .i64 n, .string f, .string s, .slice va1 va2 va3]) W w → Moved B w w' → R 4 w') :
    Calls Tryz.prog 358 #[.agg #[.int .i64 k, .int .i64 n, .string f, .string s, .slice va1 va2 va3], .pointer (some ⟨bl, 0, none⟩), .pointer (some ⟨br, 0, none⟩), .pointer (some ⟨bo, 0, none⟩), .pointer (some ⟨bn, 0, none⟩), .pointer (some ⟨be, 0, none⟩), .pointer (some ⟨bk, 0, none⟩)] W (Ends R) := by
  have HC := veil hcomma
  have HF0 := veil hfin
  have HN0 := veil hno
  have HKp := veil hkept
  have HRd := veil hr
  have HXr := veil xr
  have HXo := veil xo
  have HXn := veil xn
  have HXe := veil xe
  have HXk := veil xk
  have HE1 := veil e1
  have HEg := veil eg
  have HB0 := veil hB
  clear hcomma hfin hno hkept hr xr xo xn xe xk e1 eg hB
  obtain ⟨i0, hi0, hz0, hz1, hz2⟩ := info_parts ex_info
  have HI0 := veil hi0
  have HZ0 := veil hz0
  have HZ1 := veil hz1
  have HZ2 := veil hz2
  have HL := veil hl
  have HOwn := veil hown
  have HBase := veil hbase
  have HBl := veil hbl
  have HNl := veil hn
  have HBy := veil hb
  clear hl hown hbase hbl hn hb hi0 hz0 hz1 hz2
  have m0 : (0 : Int) ≤ (m : Int) := Int.natCast_nonneg _
  have m2 : (m : Int) < (m : Int) + 1 := by omega
  have m1 : (m : Int) < ((m + 1 : Nat) : Int) := by omega
  go_enter Tryz.func358, Tryz.ntmps358
  go_wp2_with fail
  refine Code.wp_mono (Q := Normal fun a w => ∃ g cap, a = { tmps := #[.agg #[.int .i64 k, .int .i64 n, .string f, .string s, .slice va1 va2 va3], .pointer (some ⟨bl, 0, none⟩), .pointer (some ⟨br, 0, none⟩), .pointer (some ⟨bo, 0, none⟩), .pointer (some ⟨bn, 0, none⟩), .pointer (some ⟨be, 0, none⟩), .pointer (some ⟨bk, 0, none⟩), .pointer (some ⟨W.heap.size, 0, none⟩), .int .i64 0, .slice la m lcap, .agg #[.int .i64 k, .int .i64 n, .string f, .string s, .slice va1 va2 va3], .int .i64 m, .slice (some ⟨W.heap.size + 1, 0, none⟩) 1 1, .slice (some ⟨g, 0, none⟩) (m + 1) cap, .pointer (some ⟨g, m * 5, none⟩), undef, undef, undef, undef, undef, undef, undef, undef, undef, undef, undef, undef, undef], defers := [] } ∧
      Grew base bl 87 85 (.slice la m lcap) (.slice (some ⟨g, 0, none⟩) (m + 1) cap) (m + 1) (xs ++ [.int .i64 k, .int .i64 n, .string f, .string s, .slice va1 va2 va3]) W w) ?imp ?reg
  case imp =>
    intro e a w h
    cases e with
    | normal =>
      obtain ⟨g', cap', rfl, hG⟩ := h
      have HG := veil hG
      have HR1 := veil (rd_grew HRd.out hG HOwn.out HB0.out HBl.out)
      have hk1 := HKp.out.grew hG HOwn.out HB0.out HBl.out
      have HK1 := veil hk1
      have cr := HXr.out.later hk1
      have HBox : Hid (w.cell? ⟨bl, 0, none⟩ = some (.slice (some ⟨g', 0, none⟩) (m + 1) cap')) := by
        show _ = _
        rw [cell_of_row w bl 0 _ _ _ hG.box]; rfl
      have HBlW := veil (heap_lt hG.box)
      clear hG hk1
      go_wp2_with fail
      refine (sign_next B l i ⟨#[44]⟩ _ HR1.out).mono ?_
      rintro e w2 ⟨rfl, q1, q2⟩
      have HM2 := veil q2
      have hk2 := HK1.out.moved q2
      have HK2 := veil hk2
      cases hc : sgn l i [44]
      · have hc' : sgn l i (ByteArray.mk #[44]).data.toList = false := hc
        rw [hc'] at q1
        have HR2 : Hid (RdAt B l i w2) := q1
        have HC0 := veil hc
        have cr2 := HXr.out.later hk2
        have ce2 := HXe.out.later hk2
        try rw [hc']
        clear q1 q2 hc hc' hk2 cr
        go_wp2_with fail
        refine (sign_next B l i fin _ HR2.out).mono ?_
        rintro e w3 ⟨rfl, q1, q2⟩
        have HM3 := veil (HM2.out.trans q2)
        have hk3 := HK2.out.moved q2
        cases hf : sgn l i fin.data.toList
        · have HRes := veil (HN0.out HC0.out hf g' cap' w w3 HG.out HM3.out)
          try rw [hf]
          clear q1 q2 hf hk3 cr2 ce2
          go_wp2_with fail
          go_ret
          exact ⟨_, rfl, HRes.out⟩
        · rw [hf] at q1
          have q1' : RdAt B l (i + 1) w3 := q1
          have HRes := veil (HF0.out HC0.out hf g' cap' w w3 HG.out HM3.out q1')
          have ck3 := HXk.out.later hk3
          have cl3 : w3.cell? ⟨bl, 0, none⟩ = some (.slice (some ⟨g', 0, none⟩) (m + 1) cap') := (HM3.out.cell HB0.out HBlW.out 0).trans HBox.out
          have eg := HEg.out
          try rw [hf]
          clear q1 q1' q2 hf hk3 cr2 ce2
          go_wp2_with fail
          refine HRes.out.mono ?_
          rintro e w' ⟨y, rfl, hy⟩
          have HY := veil hy
          clear hy
          go_wp2_with fail
          go_ret
          exact ⟨_, rfl, HY.out⟩
      · have hc' : sgn l i (ByteArray.mk #[44]).data.toList = true := hc
        rw [hc'] at q1
        have q1' : RdAt B l (i + 1) w2 := q1
        have HRes := veil (HC.out hc g' cap' w w2 HG.out HM2.out q1')
        have co := HXo.out.later hk2
        have cn := HXn.out.later hk2
        have e1 := HE1.out
        try rw [hc']
        clear q1 q1' q2 hc hc' hk2 cr
        go_wp2_with fail
        refine HRes.out.mono ?_
        rintro e w' ⟨y, rfl, hy⟩
        have HY := veil hy
        clear hy
        go_wp2_with fail
        go_ret
        exact ⟨_, rfl, HY.out⟩
    | _ => exact h.elim
  case reg =>
    have hblW : bl < W.heap.size := Nat.lt_of_lt_of_le HBl.out HBase.out
    have hcl : (W.alloc (.cells #[.int .i64 k, .int .i64 n, .string f, .string s, .slice va1 va2 va3] 87)).drew.cell? ⟨bl, 0, none⟩ = some (.slice la m lcap) := by
      show (W.alloc _).cell? _ = _
      rw [World.cell?_alloc_old _ _ _ (by show bl ≠ _; omega), cell_of_row W bl 0 _ _ _ HL.out]; rfl
    have hcl2 : ((W.alloc (.cells #[.int .i64 k, .int .i64 n, .string f, .string s, .slice va1 va2 va3] 87)).alloc (.cells #[.int .i64 0, .int .i64 0, .string ⟨#[]⟩, .string ⟨#[]⟩, .slice none 0 0] 87)).drew.cell? ⟨bl, 0, none⟩ = some (.slice la m lcap) := by
      show ((W.alloc _).alloc _).cell? _ = _
      rw [World.cell?_alloc_old _ _ _ (by show bl ≠ _; simp; omega)]
      exact hcl
    have hx1 : (W.alloc (.cells #[.int .i64 k, .int .i64 n, .string f, .string s, .slice va1 va2 va3] 87)).rangeAt W.heap.size 0 [.int .i64 k, .int .i64 n, .string f, .string s, .slice va1 va2 va3] := by
      intro j u hu
      rw [Nat.zero_add, World.cell?_alloc_new]
      simpa using hu
    have HX1 := veil ((World.rangeAt_drew _ _ _ _).2 hx1)
    have HX2 := veil ((World.rangeAt_drew _ _ _ _).2 (World.rangeAt_alloc hx1 (.cells #[.int .i64 0, .int .i64 0, .string ⟨#[]⟩, .string ⟨#[]⟩, .slice none 0 0] 87)))
    clear hx1
    have HNews : Hid (∀ j u, ([.int .i64 0, .int .i64 0, .string ⟨#[]⟩, .string ⟨#[]⟩, .slice none 0 0] : List Value)[j]? = some u → ((W.alloc (.cells #[.int .i64 k, .int .i64 n, .string f, .string s, .slice va1 va2 va3] 87)).alloc (.cells #[.int .i64 0, .int .i64 0, .string ⟨#[]⟩, .string ⟨#[]⟩, .slice none 0 0] 87)).drew.cell? ((⟨W.heap.size + 1, 0, none⟩ : Addr).add j) = some u) := by
      refine World.news_of_block (cs := #[.int .i64 0, .int .i64 0, .string ⟨#[]⟩, .string ⟨#[]⟩, .slice none 0 0]) (t := 87) (fr := (0, 0)) ?_
      have h := heap_alloc_new (W.alloc (.cells #[.int .i64 k, .int .i64 n, .string f, .string s, .slice va1 va2 va3] 87)) (.cells #[.int .i64 0, .int .i64 0, .string ⟨#[]⟩, .string ⟨#[]⟩, .slice none 0 0] 87)
      rw [show (W.alloc (.cells #[.int .i64 k, .int .i64 n, .string f, .string s, .slice va1 va2 va3] 87)).heap.size = W.heap.size + 1 by simp] at h
      exact h
    have HOne : Hid (∀ u ∈ ([.int .i64 0, .int .i64 0, .string ⟨#[]⟩, .string ⟨#[]⟩, .slice none 0 0] : List Value), u.oneCell' = true) := by intro u hu; simp at hu; rcases hu with rfl | rfl | rfl <;> rfl
    have HBs : Hid (base ≤ ((W.alloc (.cells #[.int .i64 k, .int .i64 n, .string f, .string s, .slice va1 va2 va3] 87)).alloc (.cells #[.int .i64 0, .int .i64 0, .string ⟨#[]⟩, .string ⟨#[]⟩, .slice none 0 0] 87)).drew.heap.size) := by
      show base ≤ ((W.alloc _).alloc _).heap.size
      have := HBase.out
      simp; omega
    have HH : Hid (((W.alloc (.cells #[.int .i64 k, .int .i64 n, .string f, .string s, .slice va1 va2 va3] 87)).alloc (.cells #[.int .i64 0, .int .i64 0, .string ⟨#[]⟩, .string ⟨#[]⟩, .slice none 0 0] 87)).drew.heap.size = W.heap.size + 2) := by
      show ((W.alloc _).alloc _).heap.size = _
      simp
    have HS1 : Hid (∀ w1, ((W.alloc (.cells #[.int .i64 k, .int .i64 n, .string f, .string s, .slice va1 va2 va3] 87)).alloc (.cells #[.int .i64 0, .int .i64 0, .string ⟨#[]⟩, .string ⟨#[]⟩, .slice none 0 0] 87)).drew.grownBy w1 (Value.slice la m lcap).ownBlock → w1.rangeAt W.heap.size 0 [.int .i64 k, .int .i64 n, .string f, .string s, .slice va1 va2 va3]) := by
      intro w1 hg j u hu
      rw [hg.cell_far _ (by rw [HH.out]; show W.heap.size < _; omega) (fun h => by have := ownsRow_in HOwn.out _ h.symm; have h2 : W.heap.size < W.heap.size := this.2; omega)]
      exact HX2.out j u hu
    have HOnX : Hid ((#[.int .i64 k, .int .i64 n, .string f, .string s, .slice va1 va2 va3] : Array Value).all (·.oneCell') = true) := by show _ = _; simp [Value.oneCell']
    have HFar : Hid (∀ g, ((Value.slice la m lcap).ownBlock = some g ∨ g = W.heap.size + 2) → bl ≠ g ∧ W.heap.size ≠ g) := by
      intro g h
      have h1 := HBl.out
      rcases h with h | h
      · have := ownsRow_in HOwn.out _ h; omega
      · omega
    have HFarB : Hid (some bl ≠ (Value.slice la m lcap).ownBlock) := fun h => by have := ownsRow_in HOwn.out _ h.symm; have := HBl.out; omega
    have HOld : Hid (∀ k', k' < W.heap.size → ((W.alloc (.cells #[.int .i64 k, .int .i64 n, .string f, .string s, .slice va1 va2 va3] 87)).alloc (.cells #[.int .i64 0, .int .i64 0, .string ⟨#[]⟩, .string ⟨#[]⟩, .slice none 0 0] 87)).drew.heap[k']? = W.heap[k']?) := by
      intro k' hk'
      show ((W.alloc _).alloc _).heap[k']? = _
      rw [heap_alloc_old _ _ (by simp; omega), heap_alloc_old _ _ (by omega)]
    have HFB : Hid (((W.alloc (.cells #[.int .i64 k, .int .i64 n, .string f, .string s, .slice va1 va2 va3] 87)).alloc (.cells #[.int .i64 0, .int .i64 0, .string ⟨#[]⟩, .string ⟨#[]⟩, .slice none 0 0] 87)).drew.frozen? ⟨bl, 0, none⟩ = false) := by
      show World.frozen? _ _ = false
      refine Lib.frozen_of_heap (T := 85) (cs := #[.slice la m lcap]) ?_ 0
      exact (HOld.out bl hblW).trans HL.out
    refine wp_region_held_drew (S := fun w' => w'.rangeAt W.heap.size 0 [.int .i64 k, .int .i64 n, .string f, .string s, .slice va1 va2 va3]) (by kernel_rfl) HX1.out (fun hHeld => ?_)
    refine any_take 1 rfl rfl (by kernel_rfl) (by kernel_rfl) (by kernel_rfl) (fun _ _ _ h => h) (yieldsIf_load_mid (by rfl) _ _ rfl _ _ rfl [.int .i64 k, .int .i64 n, .string f, .string s, .slice va1 va2 va3] _ (fun _ h => h) Tryz.underlying87 rfl exT_size) hHeld ?_
    refine any_two 0 3 (by kernel_rfl) rfl rfl rfl rfl (fun K hK => ?_) (fun K hK => ?_)
    · have HK := veil hK
      clear hK
      go_simp
      refine HK.out _ _ HX1.out ?_
      clear HK K
      refine any_take 2 rfl rfl (by kernel_rfl) (by kernel_rfl) (by kernel_rfl) (fun _ _ _ h => h) (v := .int .i64 m) (Or.inl ⟨by rfl, fun w _ => by go_simp⟩) HX1.out ?_
      refine any_one 3 (by kernel_rfl) rfl rfl (fun K hK => ?_)
      have HK := veil hK
      clear hK
      go_simp
      refine HK.out _ _ HX2.out ?_
      clear HK K
      refine any_one 4 (by kernel_rfl) rfl rfl (fun K hK => ?_)
      refine wp_append_lies _ _ _ _ rfl base 87 i0 _ 5 72 Tryz.underlying85 HI0.out HZ0.out HZ1.out HZ2.out rfl (by omega) (.slice la m lcap) m xs rfl (((HOwn.out.alloc _).alloc _).drew) ⟨W.heap.size + 1, 0, none⟩ 1 1 [.int .i64 0, .int .i64 0, .string ⟨#[]⟩, .string ⟨#[]⟩, .slice none 0 0] rfl rfl HNews.out HOne.out (by omega) HNl.out HBy.out HBs.out (W.heap.size + 2) HH.out (fun g cap w1 hown1 hgrow hat hlt => ?_)
      have hS1 := HS1.out w1 hgrow
      refine hK _ _ hS1 ?_
      clear hK K
      refine any_take 5 rfl rfl (by kernel_rfl) (by kernel_rfl) (by kernel_rfl) (fun _ _ _ h => h) (v := .pointer (some ⟨g, m * 5, none⟩)) (Or.inl ⟨by rfl, fun w _ => by go_simp⟩) hS1 ?_
      refine any_two 6 7 (by kernel_rfl) rfl rfl rfl rfl (fun K hK => ?_) (fun K hK => ?_)
      · refine wp_store_mid _ _ _ rfl g (m * 5) #[.int .i64 k, .int .i64 n, .string f, .string s, .slice va1 va2 va3] rfl rfl (own_there hown1) exT_size HOnX.out ?_
        have HF := veil (HFar.out g hat)
        have hc2 : (w1.setCells g (m * 5) [.int .i64 k, .int .i64 n, .string f, .string s, .slice va1 va2 va3]).cell? ⟨bl, 0, none⟩ = some (.slice la m lcap) := by
          rw [World.cell?_setCells_out _ _ _ _ _ (fun h => absurd h HF.out.1)]
          exact (hgrow.cell_far ⟨bl, 0, none⟩ (by rw [HH.out]; show bl < _; omega) (HFarB.out)).trans hcl2
        have hf2 : (w1.setCells g (m * 5) [.int .i64 k, .int .i64 n, .string f, .string s, .slice va1 va2 va3]).frozen? ⟨bl, 0, none⟩ = false := by
          rw [World.frozen?_setCells]
          exact (hgrow.frozen_far ⟨bl, 0, none⟩ (by rw [HH.out]; show bl < _; omega) (HFarB.out)).trans HFB.out
        have hS2 : (w1.setCells g (m * 5) [.int .i64 k, .int .i64 n, .string f, .string s, .slice va1 va2 va3]).rangeAt W.heap.size 0 [.int .i64 k, .int .i64 n, .string f, .string s, .slice va1 va2 va3] := World.rangeAt_setCells_apart hS1 _ _ _ (Or.inl HF.out.2)
        have HG : Hid (Grew base bl 87 85 (.slice la m lcap) (.slice (some ⟨g, 0, none⟩) (m + 1) cap) (m + 1) (xs ++ [.int .i64 k, .int .i64 n, .string f, .string s, .slice va1 va2 va3]) W ((w1.setCells g (m * 5) [.int .i64 k, .int .i64 n, .string f, .string s, .slice va1 va2 va3]).setCell ⟨bl, 0, none⟩ (.slice (some ⟨g, 0, none⟩) (m + 1) cap))) :=
          grew_store (W0 := ((W.alloc (.cells #[.int .i64 k, .int .i64 n, .string f, .string s, .slice va1 va2 va3] 87)).alloc (.cells #[.int .i64 0, .int .i64 0, .string ⟨#[]⟩, .string ⟨#[]⟩, .slice none 0 0] 87)).drew) HBl.out HBase.out (by rw [HH.out]; omega) rfl rfl rfl HOld.out (grownBy_put hgrow (hat.imp_right (fun h => by rw [HH.out]; omega)) hlt _ _) HL.out HFarB.out (own_put hown1 rfl rfl) (hat.imp_right (fun h => by omega))
        refine hK _ _ hS2 ?_
        clear hK K hgrow hown1 hcl hcl2 hS1
        show wpAnyH _ _ _ _ _ _ _ _ (w1.setCells g (m * 5) [.int .i64 k, .int .i64 n, .string f, .string s, .slice va1 va2 va3])
        generalize w1.setCells g (m * 5) [.int .i64 k, .int .i64 n, .string f, .string s, .slice va1 va2 va3] = w2 at *
        refine any_one 7 (by kernel_rfl) rfl rfl (fun K hK => ?_)
        have HK := veil hK
        clear hK
        go_simp
        refine HK.out _ _ (fun j u hu => ?_) (wpAnyH_done (by kernel_rfl) ⟨g, cap, rfl, HG.out⟩ _)
        rw [World.cell?_setCell_other _ _ _ _ (by intro h; injection h with h _ _; omega)]
        exact hS2 j u hu
      · have HF := veil (HFar.out g hat)
        have hc2 : w1.cell? ⟨bl, 0, none⟩ = some (.slice la m lcap) := (hgrow.cell_far ⟨bl, 0, none⟩ (by rw [HH.out]; show bl < _; omega) (HFarB.out)).trans hcl2
        have hf2 : w1.frozen? ⟨bl, 0, none⟩ = false := (hgrow.frozen_far ⟨bl, 0, none⟩ (by rw [HH.out]; show bl < _; omega) (HFarB.out)).trans HFB.out
        have hg0 : Grew base bl 87 85 (.slice la m lcap) (.slice (some ⟨g, 0, none⟩) (m + 1) cap) (m + 1) (xs ++ [.int .i64 0, .int .i64 0, .string ⟨#[]⟩, .string ⟨#[]⟩, .slice none 0 0]) W (w1.setCell ⟨bl, 0, none⟩ (.slice (some ⟨g, 0, none⟩) (m + 1) cap)) :=
          grew_store (W0 := ((W.alloc (.cells #[.int .i64 k, .int .i64 n, .string f, .string s, .slice va1 va2 va3] 87)).alloc (.cells #[.int .i64 0, .int .i64 0, .string ⟨#[]⟩, .string ⟨#[]⟩, .slice none 0 0] 87)).drew) HBl.out HBase.out (by rw [HH.out]; omega) rfl rfl rfl HOld.out hgrow HL.out HFarB.out hown1 (hat.imp_right (fun h => by omega))
        have HG := veil (Grew.put (new := [.int .i64 k, .int .i64 n, .string f, .string s, .slice va1 va2 va3]) hg0 HBl.out rfl rfl)
        have HT := veil (own_there hg0.own)
        have HS1 := veil hS1
        have HK := veil hK
        clear hK hgrow hown1 hcl hcl2 hS1 hg0
        go_simp
        have hS2 : (w1.setCell ⟨bl, 0, none⟩ (.slice (some ⟨g, 0, none⟩) (m + 1) cap)).rangeAt W.heap.size 0 [.int .i64 k, .int .i64 n, .string f, .string s, .slice va1 va2 va3] := fun j u hu => by
          rw [World.cell?_setCell_other _ _ _ _ (by intro h; injection h with h _ _; omega)]
          exact HS1.out j u hu
        refine HK.out _ _ hS2 ?_
        clear HK K
        refine any_one 6 (by kernel_rfl) rfl rfl (fun K hK => ?_)
        refine wp_store_mid _ _ _ rfl g (m * 5) #[.int .i64 k, .int .i64 n, .string f, .string s, .slice va1 va2 va3] rfl rfl HT.out exT_size HOnX.out ?_
        refine hK _ _ ?_ (wpAnyH_done (by kernel_rfl) ⟨g, cap, rfl, HG.out⟩ _)
        exact World.rangeAt_setCells_apart hS2 _ _ _ (Or.inl HF.out.2)
    · have HK := veil hK
      clear hK
      go_simp
      refine HK.out _ _ HX2.out ?_
      clear HK K
      refine any_one 0 (by kernel_rfl) rfl rfl (fun K hK => ?_)
      have HK := veil hK
      clear hK
      go_simp
      refine HK.out _ _ HX2.out ?_
      clear HK K
      refine any_take 2 rfl rfl (by kernel_rfl) (by kernel_rfl) (by kernel_rfl) (fun _ _ _ h => h) (v := .int .i64 m) (Or.inl ⟨by rfl, fun w _ => by go_simp⟩) HX2.out ?_
      refine any_one 4 (by kernel_rfl) rfl rfl (fun K hK => ?_)
      refine wp_append_lies _ _ _ _ rfl base 87 i0 _ 5 72 Tryz.underlying85 HI0.out HZ0.out HZ1.out HZ2.out rfl (by omega) (.slice la m lcap) m xs rfl (((HOwn.out.alloc _).alloc _).drew) ⟨W.heap.size + 1, 0, none⟩ 1 1 [.int .i64 0, .int .i64 0, .string ⟨#[]⟩, .string ⟨#[]⟩, .slice none 0 0] rfl rfl HNews.out HOne.out (by omega) HNl.out HBy.out HBs.out (W.heap.size + 2) HH.out (fun g cap w1 hown1 hgrow hat hlt => ?_)
      have hS1 := HS1.out w1 hgrow
      refine hK _ _ hS1 ?_
      clear hK K
      refine any_take 5 rfl rfl (by kernel_rfl) (by kernel_rfl) (by kernel_rfl) (fun _ _ _ h => h) (v := .pointer (some ⟨g, m * 5, none⟩)) (Or.inl ⟨by rfl, fun w _ => by go_simp⟩) hS1 ?_
      refine any_two 6 7 (by kernel_rfl) rfl rfl rfl rfl (fun K hK => ?_) (fun K hK => ?_)
      · refine wp_store_mid _ _ _ rfl g (m * 5) #[.int .i64 k, .int .i64 n, .string f, .string s, .slice va1 va2 va3] rfl rfl (own_there hown1) exT_size HOnX.out ?_
        have HF := veil (HFar.out g hat)
        have hc2 : (w1.setCells g (m * 5) [.int .i64 k, .int .i64 n, .string f, .string s, .slice va1 va2 va3]).cell? ⟨bl, 0, none⟩ = some (.slice la m lcap) := by
          rw [World.cell?_setCells_out _ _ _ _ _ (fun h => absurd h HF.out.1)]
          exact (hgrow.cell_far ⟨bl, 0, none⟩ (by rw [HH.out]; show bl < _; omega) (HFarB.out)).trans hcl2
        have hf2 : (w1.setCells g (m * 5) [.int .i64 k, .int .i64 n, .string f, .string s, .slice va1 va2 va3]).frozen? ⟨bl, 0, none⟩ = false := by
          rw [World.frozen?_setCells]
          exact (hgrow.frozen_far ⟨bl, 0, none⟩ (by rw [HH.out]; show bl < _; omega) (HFarB.out)).trans HFB.out
        have hS2 : (w1.setCells g (m * 5) [.int .i64 k, .int .i64 n, .string f, .string s, .slice va1 va2 va3]).rangeAt W.heap.size 0 [.int .i64 k, .int .i64 n, .string f, .string s, .slice va1 va2 va3] := World.rangeAt_setCells_apart hS1 _ _ _ (Or.inl HF.out.2)
        have HG : Hid (Grew base bl 87 85 (.slice la m lcap) (.slice (some ⟨g, 0, none⟩) (m + 1) cap) (m + 1) (xs ++ [.int .i64 k, .int .i64 n, .string f, .string s, .slice va1 va2 va3]) W ((w1.setCells g (m * 5) [.int .i64 k, .int .i64 n, .string f, .string s, .slice va1 va2 va3]).setCell ⟨bl, 0, none⟩ (.slice (some ⟨g, 0, none⟩) (m + 1) cap))) :=
          grew_store (W0 := ((W.alloc (.cells #[.int .i64 k, .int .i64 n, .string f, .string s, .slice va1 va2 va3] 87)).alloc (.cells #[.int .i64 0, .int .i64 0, .string ⟨#[]⟩, .string ⟨#[]⟩, .slice none 0 0] 87)).drew) HBl.out HBase.out (by rw [HH.out]; omega) rfl rfl rfl HOld.out (grownBy_put hgrow (hat.imp_right (fun h => by rw [HH.out]; omega)) hlt _ _) HL.out HFarB.out (own_put hown1 rfl rfl) (hat.imp_right (fun h => by omega))
        refine hK _ _ hS2 ?_
        clear hK K hgrow hown1 hcl hcl2 hS1
        show wpAnyH _ _ _ _ _ _ _ _ (w1.setCells g (m * 5) [.int .i64 k, .int .i64 n, .string f, .string s, .slice va1 va2 va3])
        generalize w1.setCells g (m * 5) [.int .i64 k, .int .i64 n, .string f, .string s, .slice va1 va2 va3] = w2 at *
        refine any_one 7 (by kernel_rfl) rfl rfl (fun K hK => ?_)
        have HK := veil hK
        clear hK
        go_simp
        refine HK.out _ _ (fun j u hu => ?_) (wpAnyH_done (by kernel_rfl) ⟨g, cap, rfl, HG.out⟩ _)
        rw [World.cell?_setCell_other _ _ _ _ (by intro h; injection h with h _ _; omega)]
        exact hS2 j u hu
      · have HF := veil (HFar.out g hat)
        have hc2 : w1.cell? ⟨bl, 0, none⟩ = some (.slice la m lcap) := (hgrow.cell_far ⟨bl, 0, none⟩ (by rw [HH.out]; show bl < _; omega) (HFarB.out)).trans hcl2
        have hf2 : w1.frozen? ⟨bl, 0, none⟩ = false := (hgrow.frozen_far ⟨bl, 0, none⟩ (by rw [HH.out]; show bl < _; omega) (HFarB.out)).trans HFB.out
        have hg0 : Grew base bl 87 85 (.slice la m lcap) (.slice (some ⟨g, 0, none⟩) (m + 1) cap) (m + 1) (xs ++ [.int .i64 0, .int .i64 0, .string ⟨#[]⟩, .string ⟨#[]⟩, .slice none 0 0]) W (w1.setCell ⟨bl, 0, none⟩ (.slice (some ⟨g, 0, none⟩) (m + 1) cap)) :=
          grew_store (W0 := ((W.alloc (.cells #[.int .i64 k, .int .i64 n, .string f, .string s, .slice va1 va2 va3] 87)).alloc (.cells #[.int .i64 0, .int .i64 0, .string ⟨#[]⟩, .string ⟨#[]⟩, .slice none 0 0] 87)).drew) HBl.out HBase.out (by rw [HH.out]; omega) rfl rfl rfl HOld.out hgrow HL.out HFarB.out hown1 (hat.imp_right (fun h => by omega))
        have HG := veil (Grew.put (new := [.int .i64 k, .int .i64 n, .string f, .string s, .slice va1 va2 va3]) hg0 HBl.out rfl rfl)
        have HT := veil (own_there hg0.own)
        have HS1 := veil hS1
        have HK := veil hK
        clear hK hgrow hown1 hcl hcl2 hS1 hg0
        go_simp
        have hS2 : (w1.setCell ⟨bl, 0, none⟩ (.slice (some ⟨g, 0, none⟩) (m + 1) cap)).rangeAt W.heap.size 0 [.int .i64 k, .int .i64 n, .string f, .string s, .slice va1 va2 va3] := fun j u hu => by
          rw [World.cell?_setCell_other _ _ _ _ (by intro h; injection h with h _ _; omega)]
          exact HS1.out j u hu
        refine HK.out _ _ hS2 ?_
        clear HK K
        refine any_one 6 (by kernel_rfl) rfl rfl (fun K hK => ?_)
        refine wp_store_mid _ _ _ rfl g (m * 5) #[.int .i64 k, .int .i64 n, .string f, .string s, .slice va1 va2 va3] rfl rfl HT.out exT_size HOnX.out ?_
        refine hK _ _ ?_ (wpAnyH_done (by kernel_rfl) ⟨g, cap, rfl, HG.out⟩ _)
        exact World.rangeAt_setCells_apart hS2 _ _ _ (Or.inl HF.out.2)
end Go.Proofs.YtagbaimfigljiaaGreatDoor
namespace Go.Proofs.YtagbaimfigljiaaGreatDoor
open Go.RowKit
set_option maxRecDepth 100000

def NamedReads : Prop := ∀ (B : Nat) (l : Toks) (i : Nat) (s : ByteArray) (w : World) (g : Nat) (lb : Array Value), (∀ args w, (callFunc g args).run Tryz.prog w = .ok (.enter g args) w) → ∀ (R : Int → World → Prop), RdAt B l i w →
    (∀ e, pNamed l s.data.toList i = .bad e → ∀ w', Moved B w w' → R e w') →
    (∀ x j, pNamed l s.data.toList i = .ok x j → ∀ w' v, Moved B w w' → RdAt B l j w' → FdIs (Fresh w.heap.size w') w' x v → Calls Tryz.prog g (#[v] ++ lb) w' (Ends R)) →
    Calls Tryz.prog 122 #[.pointer (some ⟨B, 0, none⟩), .string s, .func (.func g) #[] lb] w (Ends R)

/-- the way back of a name's type. -/
theorem named_back (g : Nat) (lb : Array Value) (eg : ∀ args w, (callFunc g args).run Tryz.prog w = .ok (.enter g args) w) (R : Int → World → Prop) (bk bn : Nat) (nm : ByteArray) (k : Int) (f n : ByteArray) (va1 : Option Addr) (va2 va3 : Nat) (W : World)
    (hk : W.cell? ⟨bk, 0, none⟩ = some (.func (.func g) #[] lb)) (hn : W.cell? ⟨bn, 0, none⟩ = some (.string nm)) 
    (h : Calls Tryz.prog g (#[.agg #[.string nm, .int .i64 k, .string f, .string n, .slice va1 va2 va3]] ++ lb) (W.alloc (.cells #[.int .i64 k, .string f, .string n, .slice va1 va2 va3] 84)) (Ends R)) :
    Calls Tryz.prog 197 #[.agg #[.int .i64 k, .string f, .string n, .slice va1 va2 va3], .pointer (some ⟨bk, 0, none⟩), .pointer (some ⟨bn, 0, none⟩)] W (Ends R) := by
  have HK := veil h
  have hbk : bk < W.heap.size := World.block_lt_of_cell? W _ hk
  have hbn : bn < W.heap.size := World.block_lt_of_cell? W _ hn
  clear h
  go_enter Tryz.func197, Tryz.ntmps197
  go_wp2_with fail
  refine HK.out.mono ?_
  rintro e w' ⟨y, rfl, hy⟩
  have HY := veil hy
  clear hy
  go_wp2_with fail
  go_ret
  exact ⟨_, rfl, HY.out⟩

set_option maxHeartbeats 4000000 in
theorem named_next : NamedReads := by
  intro B l i s w g lb eg R hr hbad hok
  have hlt := rd_lt hr
  have hal : Below w.heap.size w (w.alloc (.cells #[.func (.func g) #[] lb] 156)) := (Below.refl _ _).alloc (Nat.le_refl _) _
  have HM0 : Hid (Moved B w (w.alloc (.cells #[.func (.func g) #[] lb] 156))) := Moved.of_below hal (by omega)
  have HR0 := veil (rd_below hr hal)
  have HBad := veil hbad
  have HOk := veil hok
  have HEg := veil eg
  have hef := makeFunc_run
  clear hbad hok hr hal eg
  go_enter Tryz.func122, Tryz.ntmps122
  go_wp2_with fail
  refine (ident_next B l i _ HR0.out).mono ?_
  rintro e w1 ⟨hm, ⟨hi, t, i', rfl, hr⟩ | ⟨t, hi, hok, rfl, hr⟩⟩
  · have hsz1 : w.heap.size + 1 ≤ w1.heap.size := by have := hm.below.size; simpa using this
    have HB := veil (HBad.out 4 (by unfold pNamed; rw [hi]) (w1.alloc (.cells #[.string t] 9)) ((HM0.out.trans hm).alloc (by omega) _))
    clear hm hi hr HBad HOk
    go_wp2_with fail
    go_ret
    exact ⟨_, rfl, HB.out⟩
  · have hsz1 : w.heap.size + 1 ≤ w1.heap.size := by have := hm.below.size; simpa using this
    have hP : pNamed l s.data.toList i = if sgn l (i + 1) s.data.toList = true then (match pTy l 40 (i + 2) with
        | .bad e => .bad e
        | .ok ty j => .ok ⟨t, ty⟩ j) else .bad 4 := by unfold pNamed; rw [hi]; rfl
    have HP := veil hP
    have hal2 : Below w1.heap.size w1 (w1.alloc (.cells #[.string t] 9)) := (Below.refl _ _).alloc (Nat.le_refl _) _
    have hts := ident_le hok
    have HTs := veil hts
    have hck : w1.cell? ⟨w.heap.size, 0, none⟩ = some (.func (.func g) #[] lb) := (hm.cell (by omega) (by simp) 0).trans (World.cell?_alloc_at _ _ _ _ rfl)
    have hw2 : ∃ w2, w1.alloc (.cells #[.string t] 9) = w2 ∧ w2.cell? ⟨w.heap.size, 0, none⟩ = some (.func (.func g) #[] lb) ∧ w2.cell? ⟨w1.heap.size, 0, none⟩ = some (.string t) ∧ w2.heap.size = w1.heap.size + 1 :=
      ⟨_, rfl, (World.cell?_alloc_old _ _ _ (by show w.heap.size ≠ _; omega)).trans hck, World.cell?_alloc_at _ _ _ _ rfl, by simp⟩
    have HM2 : Hid (Moved B w (w1.alloc (.cells #[.string t] 9))) := (HM0.out.trans hm).trans (Moved.of_below hal2 (by omega))
    have HR2 := veil (rd_below hr hal2)
    obtain ⟨w2, hwe, x0, x1, hs2⟩ := hw2
    rw [hwe] at HM2 HR2
    have HX := veil (show ∀ W, Moved B w2 W → W.cell? ⟨w.heap.size, 0, none⟩ = some (.func (.func g) #[] lb) ∧ W.cell? ⟨w1.heap.size, 0, none⟩ = some (.string t) from fun W h => ⟨(h.cell (by omega) (by omega) 0).trans x0, (h.cell (by omega) (by omega) 0).trans x1⟩)
    clear hm hi hr hok hal2 hck hts hP
    go_wp2_with fail
    try rw [hwe]
    refine (sign_next B l (i + 1) s _ HR2.out).mono ?_
    rintro e w3 ⟨rfl, q1, q2⟩
    have HN3 := veil q2
    have HM3 := veil (HM2.out.trans q2)
    have hsz3 := q2.below.size
    cases hs : sgn l (i + 1) s.data.toList
    · have HB := veil (HBad.out 4 (by rw [HP.out, if_neg (by rw [hs]; simp)]) w3 HM3.out)
      try rw [hs]
      clear q1 q2 hs HBad HOk hwe x0 x1
      go_wp2_with fail
      go_ret
      exact ⟨_, rfl, HB.out⟩
    · rw [hs] at q1
      have q1' : RdAt B l (i + 2) w3 := q1
      have hP2 : pNamed l s.data.toList i = match pTy l 40 (i + 2) with
        | .bad e => .bad e
        | .ok ty j => .ok ⟨t, ty⟩ j := by rw [HP.out, if_pos hs]
      have cT := typ_next 40 1 rfl B l (i + 2) w3 197 #[.pointer (some ⟨w.heap.size, 0, none⟩), .pointer (some ⟨w1.heap.size, 0, none⟩)] (enters_of Tryz.func197 (by kernel_rfl) rfl) R q1'
        (fun e he w' hm' => HBad.out e (by rw [hP2, he]) w' (HM3.out.trans hm'))
        (fun ty j hty w' v hm' hr' hv => by
          obtain ⟨k, f, n, va, rfl, hcs⟩ := hv
          obtain ⟨va1, va2, va3, rfl⟩ := hcs.slice
          obtain ⟨u0, u1⟩ := HX.out w' (HN3.out.trans hm')
          have hal3 : Below w'.heap.size w' (w'.alloc (.cells #[.int .i64 k, .string f, .string n, .slice va1 va2 va3] 84)) := (Below.refl _ _).alloc (Nat.le_refl _) _
          have hsz' := hm'.below.size
          have hm3 : Moved B w' (w'.alloc (.cells #[.int .i64 k, .string f, .string n, .slice va1 va2 va3] 84)) := Moved.of_below hal3 (by omega)
          refine named_back g lb HEg.out R _ _ t k f n va1 va2 va3 w' u0 u1 ?_
          refine HOk.out ⟨t, ty⟩ j (by rw [hP2, hty]) _ _ ((HM3.out.trans hm').trans hm3) (rd_below hr' hal3) ⟨k, f, n, _, rfl, HTs.out, ?_⟩
          exact hcs.keep ⟨fun b hb => hm3.above b (by have := hb.1; omega) hb.2, fun b hb => ⟨by have := hb.1; omega, Nat.lt_of_lt_of_le hb.2 hal3.size⟩⟩)
      have HCT := veil cT
      try rw [hs]
      clear q1 q1' q2 hs HBad HOk cT hwe hP2 x0 x1
      go_wp2_with fail
      refine HCT.out.mono ?_
      rintro e w' ⟨y, rfl, hy⟩
      have HY := veil hy
      clear hy
      go_wp2_with fail
      go_ret
      exact ⟨_, rfl, HY.out⟩

set_option maxHeartbeats 2000000 in
theorem variable_next (B : Nat) (l : Toks) (i : Nat) (w : World) (h : RdAt B l i w) :
    Calls Tryz.prog 198 #[.pointer (some ⟨B, 0, none⟩)] w fun e w' => Moved B w w' ∧
      ((pVar l i = .bad 4 ∧ ∃ t, e = .returned (.tuple #[.string t, .bool false])) ∨ ∃ t j, pVar l i = .ok t j ∧ t.size ≤ maxLen ∧ e = .returned (.tuple #[.string t, .bool true]) ∧ RdAt B l j w') := by
  have HH := veil h
  clear h
  go_enter Tryz.func198, Tryz.ntmps198
  go_wp2_with fail
  refine (sign_next B l i ⟨#[60]⟩ w HH.out).mono ?_
  rintro e w1 ⟨rfl, q1, q2⟩
  have HM1 := veil q2
  cases hs : sgn l i [60]
  · have hs' : sgn l i (ByteArray.mk #[60]).data.toList = false := hs
    rw [hs'] at q1
    have HR1 : Hid (RdAt B l i w1) := q1
    have HP : Hid (pVar l i = .ok emptyText i) := by show _ = _; unfold pVar; rw [if_neg (by rw [hs]; simp)]
    try rw [hs']
    clear q1 q2 hs hs'
    go_wp2_with fail
    go_ret2
    exact ⟨HM1.out, Or.inr ⟨_, _, HP.out, empty_le, rfl, HR1.out⟩⟩
  · have hs' : sgn l i (ByteArray.mk #[60]).data.toList = true := hs
    rw [hs'] at q1
    have HR1 : Hid (RdAt B l (i + 1) w1) := q1
    have hP : pVar l i = match identAt l (i + 1) with
      | none => .bad 4
      | some v => if sgn l (i + 2) [62] = true then .ok v (i + 3) else .bad 4 := by unfold pVar; rw [if_pos hs]; rfl
    have HP := veil hP
    try rw [hs']
    clear q1 q2 hs hs' hP
    go_wp2_with fail
    refine (ident_next B l (i + 1) w1 HR1.out).mono ?_
    rintro e w2 ⟨hm, ⟨hi, t, i', rfl, hr⟩ | ⟨t, hi, hok, rfl, hr⟩⟩
    · have HP2 : Hid (pVar l i = .bad 4) := by show _ = _; rw [HP.out, hi]
      have HM2 := veil (HM1.out.trans hm)
      clear hm hi hr
      go_wp2_with fail
      go_ret2
      exact ⟨HM2.out, Or.inl ⟨HP2.out, _, rfl⟩⟩
    · have hP2 : pVar l i = if sgn l (i + 2) [62] = true then .ok t (i + 3) else .bad 4 := by rw [HP.out, hi]
      have HP2 := veil hP2
      have HM2 := veil (HM1.out.trans hm)
      have HR2 := veil hr
      have HT := veil (ident_le hok)
      clear hm hi hr hP2 hok
      go_wp2_with fail
      refine (sign_next B l (i + 1 + 1) ⟨#[62]⟩ w2 HR2.out).mono ?_
      rintro e w3 ⟨rfl, q1, q2⟩
      have HM3 := veil (HM2.out.trans q2)
      cases hs : sgn l (i + 2) [62]
      · have hs' : sgn l (i + 1 + 1) (ByteArray.mk #[62]).data.toList = false := hs
        have HP3 : Hid (pVar l i = .bad 4) := by show _ = _; rw [HP2.out, if_neg (by rw [hs]; simp)]
        try rw [hs']
        clear q1 q2 hs hs'
        go_wp2_with fail
        go_ret2
        exact ⟨HM3.out, Or.inl ⟨HP3.out, _, rfl⟩⟩
      · have hs' : sgn l (i + 1 + 1) (ByteArray.mk #[62]).data.toList = true := hs
        rw [hs'] at q1
        have HR3 : Hid (RdAt B l (i + 3) w3) := q1
        have HP3 : Hid (pVar l i = .ok t (i + 3)) := by show _ = _; rw [HP2.out, if_pos hs]
        try rw [hs']
        clear q1 q2 hs hs'
        go_wp2_with fail
        go_ret2
        exact ⟨HM3.out, Or.inr ⟨_, _, HP3.out, HT.out, rfl, HR3.out⟩⟩

end Go.Proofs.YtagbaimfigljiaaGreatDoor
namespace Go.Proofs.YtagbaimfigljiaaGreatDoor
open Go.RowKit
set_option maxRecDepth 100000

theorem fd_info : (Tryz.prog.info? 101).map (fun i => (i.zero, i.size, i.bytes)) = some (some (.agg #[.string ⟨#[]⟩, .int .i64 0, .string ⟨#[]⟩, .string ⟨#[]⟩, .slice none 0 0]), 5, 80) := by kernel_rfl

/-- the cells of a field whose parts lie in S. -/
def FdC (S : Nat → Prop) (W : World) (x : Fd) (cs : List Value) : Prop := ∃ k f n va1 va2 va3, cs = [.string x.name, .int .i64 k, .string f, .string n, .slice va1 va2 va3] ∧ x.name.size ≤ maxLen ∧ TyCs S W x.is k f n (.slice va1 va2 va3)

theorem fdC_keep {S S' : Nat → Prop} {W W' : World} {x : Fd} {cs : List Value} (hk : Keeps S S' W W') (h : FdC S W x cs) : FdC S' W' x cs := by
  obtain ⟨k, f, n, va1, va2, va3, rfl, hs, h⟩ := h
  exact ⟨k, f, n, va1, va2, va3, rfl, hs, h.keep hk⟩

theorem fdC_at {S : Nat → Prop} {W : World} {x : Fd} {cs : List Value} {b o : Nat} (_ : cs.length = 5) (h : FdC S W x cs) (hc : ∀ t u, cs[t]? = some u → W.cell? ⟨b, o + t, none⟩ = some u) : FdAt S W x b o := by
  obtain ⟨k, f, n, va1, va2, va3, rfl, hs, h⟩ := h
  exact ⟨⟨hc 0 _ rfl, hs⟩, tyAt_cells.2 ⟨k, f, n, _, hc 1 _ rfl, hc 2 _ rfl, hc 3 _ rfl, hc 4 _ rfl, h⟩⟩

set_option maxHeartbeats 8000000 in
theorem nextF_step (bl br bo bn be bk base : Nat) (la : Option Addr) (lcap m : Nat) (xs : List Value) (nm : ByteArray) (k : Int) (f s : ByteArray) (va1 : Option Addr) (va2 va3 : Nat) (W : World)
    (B : Nat) (l : Toks) (i : Nat) (fin : ByteArray) (g1 g : Nat) (lb1 lb : Array Value) (e1 : ∀ args w, (callFunc g1 args).run Tryz.prog w = .ok (.enter g1 args) w) (eg : ∀ args w, (callFunc g args).run Tryz.prog w = .ok (.enter g args) w) (R : Int → World → Prop) (Wb : World) (caps : Array Value)
    (hl : W.heap[bl]? = some (.cells #[.slice la m lcap] 41 (0, 0))) (hown : W.ownsRow base 101 5 (.slice la m lcap) m xs) (hbase : base ≤ W.heap.size) (hbl : bl < base)
    (hn : m + 1 ≤ maxLen) (hb : (m + 1) * 80 ≤ 140737488355328) (hB : B < bl) (hr : RdAt B l i W) (hkept : Kept B bl base Wb W)
    (xr : LBox B bl base br (.pointer (some ⟨B, 0, none⟩)) Wb) (xo : LBox B bl base bo (.func (.func g1) #[] lb1) Wb) (xn : LBox B bl base bn (.func (.func 313) #[] caps) Wb) (xe : LBox B bl base be (.string fin) Wb) (xk : LBox B bl base bk (.func (.func g) #[] lb) Wb)
    (hcomma : sgn l i [44] = true → ∀ g' cap' w w', Grew base bl 101 41 (.slice la m lcap) (.slice (some ⟨g', 0, none⟩) (m + 1) cap') (m + 1) (xs ++ [.string nm, .int .i64 k, .string f, .string s, .slice va1 va2 va3]) W w → Moved B w w' → RdAt B l (i + 1) w' → Calls Tryz.prog g1 (#[.func (.func 313) #[] caps] ++ lb1) w' (Ends R))
    (hfin : sgn l i [44] = false → sgn l i fin.data.toList = true → ∀ g' cap' w w', Grew base bl 101 41 (.slice la m lcap) (.slice (some ⟨g', 0, none⟩) (m + 1) cap') (m + 1) (xs ++ [.string nm, .int .i64 k, .string f, .string s, .slice va1 va2 va3]) W w → Moved B w w' → RdAt B l (i + 1) w' → Calls Tryz.prog g (#[.slice (some ⟨g', 0, none⟩) (m + 1) cap'] ++ lb) w' (Ends R))
    (hno : sgn l i [44] = false → sgn l i fin.data.toList = false → ∀ g' cap' w w', Grew base bl 101 41 (.slice la m lcap) (.slice (some ⟨g', 0, none⟩) (m + 1) cap') (m + 1) (xs ++ [.string nm, .int .i64 k, .string f, .string s, .slice va1 va2 va3]) W w → Moved B w w' → R 4 w') :
    Calls Tryz.prog 313 #[.agg #[.string nm, .int .i64 k, .string f, .string s, .slice va1 va2 va3], .pointer (some ⟨bl, 0, none⟩), .pointer (some ⟨br, 0, none⟩), .pointer (some ⟨bo, 0, none⟩), .pointer (some ⟨bn, 0, none⟩), .pointer (some ⟨be, 0, none⟩), .pointer (some ⟨bk, 0, none⟩)] W (Ends R) := by
  have HC := veil hcomma
  have HF0 := veil hfin
  have HN0 := veil hno
  have HKp := veil hkept
  have HRd := veil hr
  have HXr := veil xr
  have HXo := veil xo
  have HXn := veil xn
  have HXe := veil xe
  have HXk := veil xk
  have HE1 := veil e1
  have HEg := veil eg
  have HB0 := veil hB
  clear hcomma hfin hno hkept hr xr xo xn xe xk e1 eg hB
  obtain ⟨i0, hi0, hz0, hz1, hz2⟩ := info_parts fd_info
  have HI0 := veil hi0
  have HZ0 := veil hz0
  have HZ1 := veil hz1
  have HZ2 := veil hz2
  have HL := veil hl
  have HOwn := veil hown
  have HBase := veil hbase
  have HBl := veil hbl
  have HNl := veil hn
  have HBy := veil hb
  have hblW : bl < W.heap.size := Nat.lt_of_lt_of_le hbl hbase
  clear hl hown hbase hbl hn hb hi0 hz0 hz1 hz2
  have hcl : W.cell? ⟨bl, 0, none⟩ = some (.slice la m lcap) := by rw [cell_of_row W bl 0 _ _ _ HL.out]; rfl
  have HNews : Hid (∀ j u, ([.string nm, .int .i64 k, .string f, .string s, .slice va1 va2 va3] : List Value)[j]? = some u → ((W.alloc (.cells #[.string nm, .int .i64 k, .string f, .string s, .slice va1 va2 va3] 101)).alloc (.cells #[.string nm, .int .i64 k, .string f, .string s, .slice va1 va2 va3] 101)).cell? ((⟨W.heap.size + 1, 0, none⟩ : Addr).add j) = some u) := by
    refine World.news_of_block (cs := #[.string nm, .int .i64 k, .string f, .string s, .slice va1 va2 va3]) (t := 101) (fr := (0, 0)) ?_
    have h := heap_alloc_new (W.alloc (.cells #[.string nm, .int .i64 k, .string f, .string s, .slice va1 va2 va3] 101)) (.cells #[.string nm, .int .i64 k, .string f, .string s, .slice va1 va2 va3] 101)
    rw [show (W.alloc (.cells #[.string nm, .int .i64 k, .string f, .string s, .slice va1 va2 va3] 101)).heap.size = W.heap.size + 1 by simp] at h
    exact h
  have HOne : Hid (∀ u ∈ ([.string nm, .int .i64 k, .string f, .string s, .slice va1 va2 va3] : List Value), u.oneCell' = true) := by intro u hu; simp at hu; rcases hu with rfl | rfl | rfl | rfl | rfl <;> rfl
  have HH : Hid (((W.alloc (.cells #[.string nm, .int .i64 k, .string f, .string s, .slice va1 va2 va3] 101)).alloc (.cells #[.string nm, .int .i64 k, .string f, .string s, .slice va1 va2 va3] 101)).heap.size = W.heap.size + 2) := by show _ = _; simp
  have HBs : Hid (base ≤ ((W.alloc (.cells #[.string nm, .int .i64 k, .string f, .string s, .slice va1 va2 va3] 101)).alloc (.cells #[.string nm, .int .i64 k, .string f, .string s, .slice va1 va2 va3] 101)).heap.size) := by show _ ≤ _; rw [HH.out]; have := HBase.out; omega
  have HFarB : Hid (some bl ≠ (Value.slice la m lcap).ownBlock) := fun h => by have := ownsRow_in HOwn.out _ h.symm; have := HBl.out; omega
  have HOld : Hid (∀ k', k' < W.heap.size → ((W.alloc (.cells #[.string nm, .int .i64 k, .string f, .string s, .slice va1 va2 va3] 101)).alloc (.cells #[.string nm, .int .i64 k, .string f, .string s, .slice va1 va2 va3] 101)).heap[k']? = W.heap[k']?) := by
    intro k' hk'
    rw [heap_alloc_old _ _ (by simp; omega), heap_alloc_old _ _ (by omega)]
  have HC2 : Hid (∀ w1, ((W.alloc (.cells #[.string nm, .int .i64 k, .string f, .string s, .slice va1 va2 va3] 101)).alloc (.cells #[.string nm, .int .i64 k, .string f, .string s, .slice va1 va2 va3] 101)).grownBy w1 (Value.slice la m lcap).ownBlock → w1.cell? ⟨bl, 0, none⟩ = some (.slice la m lcap) ∧ w1.frozen? ⟨bl, 0, none⟩ = false) := by
    intro w1 hg
    have hb1 : w1.heap[bl]? = some (.cells #[.slice la m lcap] 41 (0, 0)) := (hg.block bl (by rw [HH.out]; omega) HFarB.out).trans ((HOld.out bl hblW).trans HL.out)
    exact ⟨by rw [cell_of_row w1 bl 0 _ _ _ hb1]; rfl, Lib.frozen_of_heap hb1 0⟩
  have HGr : Hid (∀ g' cap' w1, w1.ownsRow base 101 5 (.slice (some ⟨g', 0, none⟩) (m + 1) cap') (m + 1) (xs ++ [.string nm, .int .i64 k, .string f, .string s, .slice va1 va2 va3]) → ((W.alloc (.cells #[.string nm, .int .i64 k, .string f, .string s, .slice va1 va2 va3] 101)).alloc (.cells #[.string nm, .int .i64 k, .string f, .string s, .slice va1 va2 va3] 101)).grownBy w1 (Value.slice la m lcap).ownBlock → ((Value.slice la m lcap).ownBlock = some g' ∨ g' = W.heap.size + 2) → Grew base bl 101 41 (.slice la m lcap) (.slice (some ⟨g', 0, none⟩) (m + 1) cap') (m + 1) (xs ++ [.string nm, .int .i64 k, .string f, .string s, .slice va1 va2 va3]) W (w1.setCell ⟨bl, 0, none⟩ (.slice (some ⟨g', 0, none⟩) (m + 1) cap'))) := fun g' cap' w1 ho hg hat =>
    grew_store (W0 := (W.alloc (.cells #[.string nm, .int .i64 k, .string f, .string s, .slice va1 va2 va3] 101)).alloc (.cells #[.string nm, .int .i64 k, .string f, .string s, .slice va1 va2 va3] 101)) HBl.out HBase.out (by rw [HH.out]; omega) rfl rfl rfl HOld.out hg HL.out HFarB.out ho (hat.imp_right (fun h => by omega))
  go_enter Tryz.func313, Tryz.ntmps313
  go_wp2_with (at_builtin; refine wpList_append_lies _ rfl _ _ 41 rfl base 101 i0 _ 5 80 Tryz.underlying41 HI0.out HZ0.out HZ1.out HZ2.out rfl (by decide) (.slice la m lcap) m xs rfl ((HOwn.out.alloc _).alloc _) ⟨W.heap.size + 1, 0, none⟩ 1 1 [.string nm, .int .i64 k, .string f, .string s, .slice va1 va2 va3] rfl rfl HNews.out HOne.out (by decide) HNl.out HBy.out HBs.out (W.heap.size + 2) HH.out (fun g' cap' w1 hown1 hgrow hat hlt => ?_); obtain ⟨hc2, hf2⟩ := HC2.out w1 hgrow; have HG0 := veil (HGr.out g' cap' w1 hown1 hgrow hat); have cr := HXr.out.later (HKp.out.grew HG0.out HOwn.out HB0.out HBl.out); clear hown1 hgrow hat hlt)
  have hG := HG0.out
  generalize w1.setCell ⟨bl, 0, none⟩ (.slice (some ⟨g', 0, none⟩) (m + 1) cap') = w at *
  have HG := veil hG
  have HR1 := veil (rd_grew HRd.out hG HOwn.out HB0.out HBl.out)
  have hk1 := HKp.out.grew hG HOwn.out HB0.out HBl.out
  have HK1 := veil hk1
  have HBox : Hid (w.cell? ⟨bl, 0, none⟩ = some (.slice (some ⟨g', 0, none⟩) (m + 1) cap')) := by
    show _ = _
    rw [cell_of_row w bl 0 _ _ _ hG.box]; rfl
  have HBlW := veil (heap_lt hG.box)
  clear hG hk1
  refine (sign_next B l i ⟨#[44]⟩ _ HR1.out).mono ?_
  rintro e w2 ⟨rfl, q1, q2⟩
  have HM2 := veil q2
  have hk2 := HK1.out.moved q2
  have HK2 := veil hk2
  cases hc : sgn l i [44]
  · have hc' : sgn l i (ByteArray.mk #[44]).data.toList = false := hc
    rw [hc'] at q1
    have HR2 : Hid (RdAt B l i w2) := q1
    have HC0 := veil hc
    have cr2 := HXr.out.later hk2
    have ce2 := HXe.out.later hk2
    try rw [hc']
    clear q1 q2 hc hc' hk2 cr
    go_wp2_with fail
    refine (sign_next B l i fin _ HR2.out).mono ?_
    rintro e w3 ⟨rfl, q1, q2⟩
    have HM3 := veil (HM2.out.trans q2)
    have hk3 := HK2.out.moved q2
    cases hf : sgn l i fin.data.toList
    · have HRes := veil (HN0.out HC0.out hf g' cap' w w3 HG.out HM3.out)
      try rw [hf]
      clear q1 q2 hf hk3 cr2 ce2
      go_wp2_with fail
      go_ret
      exact ⟨_, rfl, HRes.out⟩
    · rw [hf] at q1
      have q1' : RdAt B l (i + 1) w3 := q1
      have HRes := veil (HF0.out HC0.out hf g' cap' w w3 HG.out HM3.out q1')
      have ck3 := HXk.out.later hk3
      have cl3 : w3.cell? ⟨bl, 0, none⟩ = some (.slice (some ⟨g', 0, none⟩) (m + 1) cap') := (HM3.out.cell HB0.out HBlW.out 0).trans HBox.out
      have eg := HEg.out
      try rw [hf]
      clear q1 q1' q2 hf hk3 cr2 ce2
      go_wp2_with fail
      refine HRes.out.mono ?_
      rintro e w' ⟨y, rfl, hy⟩
      have HY := veil hy
      clear hy
      go_wp2_with fail
      go_ret
      exact ⟨_, rfl, HY.out⟩
  · have hc' : sgn l i (ByteArray.mk #[44]).data.toList = true := hc
    rw [hc'] at q1
    have q1' : RdAt B l (i + 1) w2 := q1
    have HRes := veil (HC.out hc g' cap' w w2 HG.out HM2.out q1')
    have co := HXo.out.later hk2
    have cn := HXn.out.later hk2
    have e1 := HE1.out
    try rw [hc']
    clear q1 q1' q2 hc hc' hk2 cr
    go_wp2_with fail
    refine HRes.out.mono ?_
    rintro e w' ⟨y, rfl, hy⟩
    have HY := veil hy
    clear hy
    go_wp2_with fail
    go_ret
    exact ⟨_, rfl, HY.out⟩

end Go.Proofs.YtagbaimfigljiaaGreatDoor
