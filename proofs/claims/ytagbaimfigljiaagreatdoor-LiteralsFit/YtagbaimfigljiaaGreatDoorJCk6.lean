import Derived.Test.YtagbaimfigljiaaGreatDoorJCk5
import Derived.Test.YtagbaimfigljiaaGreatDoorJCk3
import Derived.Laws.EntriesVeiled
namespace Go.Proofs.YtagbaimfigljiaaGreatDoor
open Go.RowKit
set_option maxRecDepth 100000

set_option maxHeartbeats 8000000 in
theorem pushF_step (R : Int → World → Prop) (base M n1 bm br B : Nat) (cells : Array Value) (la : Option Addr) (lcap m : Nat) (xs : List Value) (nm vr : ByteArray) (vp1 : Option Addr) (vp2 vp3 : Nat) (k : Int) (f n : ByteArray) (va1 : Option Addr) (va2 va3 : Nat) (k' n' : Int) (f' s' : ByteArray) (ve1 : Option Addr) (ve2 ve3 : Nat) (ta : Option Addr) (tn tcap j : Nat) (W : World)
    (hl : W.heap[M]? = some (.cells cells 44 (0, 0))) (hcell : cells[2]? = some (.slice la m lcap)) (hown : W.ownsRow base 89 12 (.slice la m lcap) m xs) (hold : ∀ g, (Value.slice la m lcap).ownBlock = some g → g < n1) (hM : M < base) (hb1 : base ≤ n1) (hn1 : n1 ≤ W.heap.size)
    (hn : m + 1 ≤ maxLen) (hb : (m + 1) * 192 ≤ 140737488355328) (cm : W.cell? ⟨bm, 0, none⟩ = some (.pointer (some ⟨M, 0, none⟩))) (cr : W.cell? ⟨br, 0, none⟩ = some (.pointer (some ⟨B, 0, none⟩))) (hbm : n1 ≤ bm) (hbr : n1 ≤ br) (hB : n1 ≤ B)
    (hrd : W.heap[B]? = some (.cells #[.slice ta tn tcap, .int .i64 j] 181 (0, 0)))
    (hR : ∀ g cap w w', GrewM base M 2 cells 89 12 (.slice la m lcap) (.slice (some ⟨g, 0, none⟩) (m + 1) cap) (m + 1) (xs ++ [.string nm, .string vr, .slice vp1 vp2 vp3, .int .i64 k, .string f, .string n, .slice va1 va2 va3, .int .i64 k', .int .i64 n', .string f', .string s', .slice ve1 ve2 ve3]) W w → Below w.heap.size w w' → R (if tn ≤ j then 0 else 4) w') :
    Calls Tryz.prog 126 #[.agg #[.string nm, .string vr, .slice vp1 vp2 vp3, .int .i64 k, .string f, .string n, .slice va1 va2 va3, .int .i64 k', .int .i64 n', .string f', .string s', .slice ve1 ve2 ve3], .pointer (some ⟨bm, 0, none⟩), .pointer (some ⟨br, 0, none⟩)] W (Ends R) := by
  obtain ⟨i0, hi0, hz0, hz1, hz2⟩ := info_parts fu_info
  have HI0 := veil hi0
  have HZ0 := veil hz0
  have HZ1 := veil hz1
  have HZ2 := veil hz2
  have HL := veil hl
  have HCell := veil hcell
  have HOwn := veil hown
  have HOldR := veil hold
  have HM := veil hM
  have HB1 := veil hb1
  have HN1 := veil hn1
  have HNl := veil hn
  have HBy := veil hb
  have HR := veil hR
  have HRd := veil hrd
  have HCr := veil cr
  have hbmW : bm < W.heap.size := World.block_lt_of_cell? W _ cm
  have hbrW : br < W.heap.size := World.block_lt_of_cell? W _ cr
  have HCm := veil cm
  have hMW : M < W.heap.size := by omega
  have hMm : bm ≠ M := by omega
  have hMr : br ≠ M := by omega
  have hMB : B ≠ M := by omega
  have hBW := heap_lt hrd
  clear hl hcell hown hold hM hn hb hR hrd cr cm hb1 hn1 hi0 hz0 hz1 hz2
  have m0 : (0 : Int) ≤ (m : Int) := Int.natCast_nonneg _
  go_enter Tryz.func126, Tryz.ntmps126
  go_wp2_with fail
  refine Code.wp_mono (Q := Normal fun a w => ∃ g cap, a = { tmps := #[.agg #[.string nm, .string vr, .slice vp1 vp2 vp3, .int .i64 k, .string f, .string n, .slice va1 va2 va3, .int .i64 k', .int .i64 n', .string f', .string s', .slice ve1 ve2 ve3], .pointer (some ⟨bm, 0, none⟩), .pointer (some ⟨br, 0, none⟩), .pointer (some ⟨W.heap.size, 0, none⟩), .int .i64 0, .pointer (some ⟨M, 0, none⟩), .pointer (some ⟨M, 0, none⟩), .pointer (some ⟨M, 0, none⟩), .pointer (some ⟨M, 2, none⟩), .slice la m lcap, .agg #[.string nm, .string vr, .slice vp1 vp2 vp3, .int .i64 k, .string f, .string n, .slice va1 va2 va3, .int .i64 k', .int .i64 n', .string f', .string s', .slice ve1 ve2 ve3], .slice (some ⟨W.heap.size + 1, 0, none⟩) 1 1, .slice (some ⟨g, 0, none⟩) (m + 1) cap, .pointer (some ⟨M, 0, none⟩), .pointer (some ⟨M, 2, none⟩), undef, undef], defers := [] } ∧
      GrewM base M 2 cells 89 12 (.slice la m lcap) (.slice (some ⟨g, 0, none⟩) (m + 1) cap) (m + 1) (xs ++ [.string nm, .string vr, .slice vp1 vp2 vp3, .int .i64 k, .string f, .string n, .slice va1 va2 va3, .int .i64 k', .int .i64 n', .string f', .string s', .slice ve1 ve2 ve3]) W w) ?imp ?reg
  case imp =>
    intro e a w h
    cases e with
    | normal =>
      obtain ⟨g, cap, rfl, hG⟩ := h
      have hrow : ∀ k, n1 ≤ k → some k ≠ (Value.slice la m lcap).ownBlock := fun k hk e => by have := HOldR.out k e.symm; omega
      have HRes := veil (fun w' => HR.out g cap w w' hG)
      have c1 : w.cell? ⟨br, 0, none⟩ = some (.pointer (some ⟨B, 0, none⟩)) := (World.cell?_of_block (hG.rest br hbrW hMr (hrow br hbr))).trans HCr.out
      have HRd1 : Hid (w.heap[B]? = some (.cells #[.slice ta tn tcap, .int .i64 j] 181 (0, 0))) := (hG.rest B hBW hMB (hrow B hB)).trans HRd.out
      clear hG hrow
      go_wp2_with fail
      refine (end_next B ta tn tcap j w HRd1.out).mono ?_
      rintro e w' ⟨rfl, hb⟩
      have HF := veil (HRes.out w' hb)
      clear hb
      generalize (if tn ≤ j then (0 : Int) else 4) = y at *
      go_wp2_with fail
      go_ret
      exact ⟨_, rfl, HF.out⟩
    | _ => exact h.elim
  case reg =>
    have hcM : W.cell? ⟨M, 2, none⟩ = some (.slice la m lcap) := by rw [cell_of_row W M 2 _ _ _ HL.out]; exact HCell.out
    have hcl : (W.alloc (.cells #[.string nm, .string vr, .slice vp1 vp2 vp3, .int .i64 k, .string f, .string n, .slice va1 va2 va3, .int .i64 k', .int .i64 n', .string f', .string s', .slice ve1 ve2 ve3] 89)).drew.cell? ⟨M, 2, none⟩ = some (.slice la m lcap) := by
      show (W.alloc _).cell? _ = _
      rw [World.cell?_alloc_old _ _ _ (by show M ≠ _; omega)]; exact hcM
    have hcl2 : ((W.alloc (.cells #[.string nm, .string vr, .slice vp1 vp2 vp3, .int .i64 k, .string f, .string n, .slice va1 va2 va3, .int .i64 k', .int .i64 n', .string f', .string s', .slice ve1 ve2 ve3] 89)).alloc (.cells #[.string nm, .string vr, .slice vp1 vp2 vp3, .int .i64 k, .string f, .string n, .slice va1 va2 va3, .int .i64 k', .int .i64 n', .string f', .string s', .slice ve1 ve2 ve3] 89)).drew.cell? ⟨M, 2, none⟩ = some (.slice la m lcap) := by
      show ((W.alloc _).alloc _).cell? _ = _
      rw [World.cell?_alloc_old _ _ _ (by show M ≠ _; simp; omega)]
      exact hcl
    have hx1 : (W.alloc (.cells #[.string nm, .string vr, .slice vp1 vp2 vp3, .int .i64 k, .string f, .string n, .slice va1 va2 va3, .int .i64 k', .int .i64 n', .string f', .string s', .slice ve1 ve2 ve3] 89)).rangeAt W.heap.size 0 [.string nm, .string vr, .slice vp1 vp2 vp3, .int .i64 k, .string f, .string n, .slice va1 va2 va3, .int .i64 k', .int .i64 n', .string f', .string s', .slice ve1 ve2 ve3] := by
      intro j u hu
      rw [Nat.zero_add, World.cell?_alloc_new]
      simpa using hu
    have hm1 : (W.alloc (.cells #[.string nm, .string vr, .slice vp1 vp2 vp3, .int .i64 k, .string f, .string n, .slice va1 va2 va3, .int .i64 k', .int .i64 n', .string f', .string s', .slice ve1 ve2 ve3] 89)).cell? ⟨bm, 0, none⟩ = some (.pointer (some ⟨M, 0, none⟩)) := by
      rw [World.cell?_alloc_old _ _ _ (by show bm ≠ _; omega)]; exact HCm.out
    have hm2 : ((W.alloc (.cells #[.string nm, .string vr, .slice vp1 vp2 vp3, .int .i64 k, .string f, .string n, .slice va1 va2 va3, .int .i64 k', .int .i64 n', .string f', .string s', .slice ve1 ve2 ve3] 89)).alloc (.cells #[.string nm, .string vr, .slice vp1 vp2 vp3, .int .i64 k, .string f, .string n, .slice va1 va2 va3, .int .i64 k', .int .i64 n', .string f', .string s', .slice ve1 ve2 ve3] 89)).cell? ⟨bm, 0, none⟩ = some (.pointer (some ⟨M, 0, none⟩)) := by
      rw [World.cell?_alloc_old _ _ _ (by show bm ≠ _; simp; omega)]; exact hm1
    have HX1 : Hid ((W.alloc (.cells #[.string nm, .string vr, .slice vp1 vp2 vp3, .int .i64 k, .string f, .string n, .slice va1 va2 va3, .int .i64 k', .int .i64 n', .string f', .string s', .slice ve1 ve2 ve3] 89)).drew.rangeAt W.heap.size 0 [.string nm, .string vr, .slice vp1 vp2 vp3, .int .i64 k, .string f, .string n, .slice va1 va2 va3, .int .i64 k', .int .i64 n', .string f', .string s', .slice ve1 ve2 ve3] ∧ (W.alloc (.cells #[.string nm, .string vr, .slice vp1 vp2 vp3, .int .i64 k, .string f, .string n, .slice va1 va2 va3, .int .i64 k', .int .i64 n', .string f', .string s', .slice ve1 ve2 ve3] 89)).drew.cell? ⟨bm, 0, none⟩ = some (.pointer (some ⟨M, 0, none⟩))) := ⟨(World.rangeAt_drew _ _ _ _).2 hx1, hm1⟩
    have HX2 : Hid (((W.alloc (.cells #[.string nm, .string vr, .slice vp1 vp2 vp3, .int .i64 k, .string f, .string n, .slice va1 va2 va3, .int .i64 k', .int .i64 n', .string f', .string s', .slice ve1 ve2 ve3] 89)).alloc (.cells #[.string nm, .string vr, .slice vp1 vp2 vp3, .int .i64 k, .string f, .string n, .slice va1 va2 va3, .int .i64 k', .int .i64 n', .string f', .string s', .slice ve1 ve2 ve3] 89)).drew.rangeAt W.heap.size 0 [.string nm, .string vr, .slice vp1 vp2 vp3, .int .i64 k, .string f, .string n, .slice va1 va2 va3, .int .i64 k', .int .i64 n', .string f', .string s', .slice ve1 ve2 ve3] ∧ ((W.alloc (.cells #[.string nm, .string vr, .slice vp1 vp2 vp3, .int .i64 k, .string f, .string n, .slice va1 va2 va3, .int .i64 k', .int .i64 n', .string f', .string s', .slice ve1 ve2 ve3] 89)).alloc (.cells #[.string nm, .string vr, .slice vp1 vp2 vp3, .int .i64 k, .string f, .string n, .slice va1 va2 va3, .int .i64 k', .int .i64 n', .string f', .string s', .slice ve1 ve2 ve3] 89)).drew.cell? ⟨bm, 0, none⟩ = some (.pointer (some ⟨M, 0, none⟩))) := ⟨(World.rangeAt_drew _ _ _ _).2 (World.rangeAt_alloc hx1 (.cells #[.string nm, .string vr, .slice vp1 vp2 vp3, .int .i64 k, .string f, .string n, .slice va1 va2 va3, .int .i64 k', .int .i64 n', .string f', .string s', .slice ve1 ve2 ve3] 89)), hm2⟩
    clear hx1 hm1 hm2
    have HNews : Hid (∀ j u, ([.string nm, .string vr, .slice vp1 vp2 vp3, .int .i64 k, .string f, .string n, .slice va1 va2 va3, .int .i64 k', .int .i64 n', .string f', .string s', .slice ve1 ve2 ve3] : List Value)[j]? = some u → ((W.alloc (.cells #[.string nm, .string vr, .slice vp1 vp2 vp3, .int .i64 k, .string f, .string n, .slice va1 va2 va3, .int .i64 k', .int .i64 n', .string f', .string s', .slice ve1 ve2 ve3] 89)).alloc (.cells #[.string nm, .string vr, .slice vp1 vp2 vp3, .int .i64 k, .string f, .string n, .slice va1 va2 va3, .int .i64 k', .int .i64 n', .string f', .string s', .slice ve1 ve2 ve3] 89)).drew.cell? ((⟨W.heap.size + 1, 0, none⟩ : Addr).add j) = some u) := by
      refine World.news_of_block (cs := #[.string nm, .string vr, .slice vp1 vp2 vp3, .int .i64 k, .string f, .string n, .slice va1 va2 va3, .int .i64 k', .int .i64 n', .string f', .string s', .slice ve1 ve2 ve3]) (t := 89) (fr := (0, 0)) ?_
      have h := heap_alloc_new (W.alloc (.cells #[.string nm, .string vr, .slice vp1 vp2 vp3, .int .i64 k, .string f, .string n, .slice va1 va2 va3, .int .i64 k', .int .i64 n', .string f', .string s', .slice ve1 ve2 ve3] 89)) (.cells #[.string nm, .string vr, .slice vp1 vp2 vp3, .int .i64 k, .string f, .string n, .slice va1 va2 va3, .int .i64 k', .int .i64 n', .string f', .string s', .slice ve1 ve2 ve3] 89)
      rw [show (W.alloc (.cells #[.string nm, .string vr, .slice vp1 vp2 vp3, .int .i64 k, .string f, .string n, .slice va1 va2 va3, .int .i64 k', .int .i64 n', .string f', .string s', .slice ve1 ve2 ve3] 89)).heap.size = W.heap.size + 1 by simp] at h
      exact h
    have HOne : Hid (∀ u ∈ ([.string nm, .string vr, .slice vp1 vp2 vp3, .int .i64 k, .string f, .string n, .slice va1 va2 va3, .int .i64 k', .int .i64 n', .string f', .string s', .slice ve1 ve2 ve3] : List Value), u.oneCell' = true) := by
      have h : ([.string nm, .string vr, .slice vp1 vp2 vp3, .int .i64 k, .string f, .string n, .slice va1 va2 va3, .int .i64 k', .int .i64 n', .string f', .string s', .slice ve1 ve2 ve3] : List Value).all (·.oneCell') = true := by simp [Value.oneCell']
      exact fun u hu => List.all_eq_true.1 h u hu
    have HH : Hid (((W.alloc (.cells #[.string nm, .string vr, .slice vp1 vp2 vp3, .int .i64 k, .string f, .string n, .slice va1 va2 va3, .int .i64 k', .int .i64 n', .string f', .string s', .slice ve1 ve2 ve3] 89)).alloc (.cells #[.string nm, .string vr, .slice vp1 vp2 vp3, .int .i64 k, .string f, .string n, .slice va1 va2 va3, .int .i64 k', .int .i64 n', .string f', .string s', .slice ve1 ve2 ve3] 89)).drew.heap.size = W.heap.size + 2) := by
      show ((W.alloc _).alloc _).heap.size = _
      simp
    have HBs : Hid (base ≤ ((W.alloc (.cells #[.string nm, .string vr, .slice vp1 vp2 vp3, .int .i64 k, .string f, .string n, .slice va1 va2 va3, .int .i64 k', .int .i64 n', .string f', .string s', .slice ve1 ve2 ve3] 89)).alloc (.cells #[.string nm, .string vr, .slice vp1 vp2 vp3, .int .i64 k, .string f, .string n, .slice va1 va2 va3, .int .i64 k', .int .i64 n', .string f', .string s', .slice ve1 ve2 ve3] 89)).drew.heap.size) := by show _ ≤ _; rw [HH.out]; have := HB1.out; have := HN1.out; omega
    have HFarM : Hid (some M ≠ (Value.slice la m lcap).ownBlock) := fun h => by have := ownsRow_in HOwn.out _ h.symm; have := HM.out; omega
    have HFar : Hid (∀ g, ((Value.slice la m lcap).ownBlock = some g ∨ g = W.heap.size + 2) → M ≠ g ∧ W.heap.size ≠ g) := by
      intro g h
      have h1 := HM.out
      rcases h with h | h
      · have := ownsRow_in HOwn.out _ h; omega
      · omega
    have HOld : Hid (∀ q', q' < W.heap.size → ((W.alloc (.cells #[.string nm, .string vr, .slice vp1 vp2 vp3, .int .i64 k, .string f, .string n, .slice va1 va2 va3, .int .i64 k', .int .i64 n', .string f', .string s', .slice ve1 ve2 ve3] 89)).alloc (.cells #[.string nm, .string vr, .slice vp1 vp2 vp3, .int .i64 k, .string f, .string n, .slice va1 va2 va3, .int .i64 k', .int .i64 n', .string f', .string s', .slice ve1 ve2 ve3] 89)).drew.heap[q']? = W.heap[q']?) := by
      intro q' hk'
      show ((W.alloc _).alloc _).heap[q']? = _
      rw [heap_alloc_old _ _ (by simp; omega), heap_alloc_old _ _ (by omega)]
    have HC2 : Hid (∀ w1, ((W.alloc (.cells #[.string nm, .string vr, .slice vp1 vp2 vp3, .int .i64 k, .string f, .string n, .slice va1 va2 va3, .int .i64 k', .int .i64 n', .string f', .string s', .slice ve1 ve2 ve3] 89)).alloc (.cells #[.string nm, .string vr, .slice vp1 vp2 vp3, .int .i64 k, .string f, .string n, .slice va1 va2 va3, .int .i64 k', .int .i64 n', .string f', .string s', .slice ve1 ve2 ve3] 89)).drew.grownBy w1 (Value.slice la m lcap).ownBlock → w1.cell? ⟨M, 2, none⟩ = some (.slice la m lcap) ∧ w1.frozen? ⟨M, 2, none⟩ = false) := by
      intro w1 hg
      have hb1 : w1.heap[M]? = some (.cells cells 44 (0, 0)) := (hg.block M (by rw [HH.out]; omega) HFarM.out).trans ((HOld.out M hMW).trans HL.out)
      exact ⟨by rw [cell_of_row w1 M 2 _ _ _ hb1]; exact HCell.out, Lib.frozen_of_heap hb1 2⟩
    have HGr : Hid (∀ g' cap' w1, w1.ownsRow base 89 12 (.slice (some ⟨g', 0, none⟩) (m + 1) cap') (m + 1) (xs ++ [.string nm, .string vr, .slice vp1 vp2 vp3, .int .i64 k, .string f, .string n, .slice va1 va2 va3, .int .i64 k', .int .i64 n', .string f', .string s', .slice ve1 ve2 ve3]) → ((W.alloc (.cells #[.string nm, .string vr, .slice vp1 vp2 vp3, .int .i64 k, .string f, .string n, .slice va1 va2 va3, .int .i64 k', .int .i64 n', .string f', .string s', .slice ve1 ve2 ve3] 89)).alloc (.cells #[.string nm, .string vr, .slice vp1 vp2 vp3, .int .i64 k, .string f, .string n, .slice va1 va2 va3, .int .i64 k', .int .i64 n', .string f', .string s', .slice ve1 ve2 ve3] 89)).drew.grownBy w1 (Value.slice la m lcap).ownBlock → ((Value.slice la m lcap).ownBlock = some g' ∨ g' = W.heap.size + 2) → GrewM base M 2 cells 89 12 (.slice la m lcap) (.slice (some ⟨g', 0, none⟩) (m + 1) cap') (m + 1) (xs ++ [.string nm, .string vr, .slice vp1 vp2 vp3, .int .i64 k, .string f, .string n, .slice va1 va2 va3, .int .i64 k', .int .i64 n', .string f', .string s', .slice ve1 ve2 ve3]) W (w1.setCell ⟨M, 2, none⟩ (.slice (some ⟨g', 0, none⟩) (m + 1) cap'))) := fun g' cap' w1 ho hg hat =>
      grewM_store (W0 := ((W.alloc (.cells #[.string nm, .string vr, .slice vp1 vp2 vp3, .int .i64 k, .string f, .string n, .slice va1 va2 va3, .int .i64 k', .int .i64 n', .string f', .string s', .slice ve1 ve2 ve3] 89)).alloc (.cells #[.string nm, .string vr, .slice vp1 vp2 vp3, .int .i64 k, .string f, .string n, .slice va1 va2 va3, .int .i64 k', .int .i64 n', .string f', .string s', .slice ve1 ve2 ve3] 89)).drew) HM.out (Nat.le_trans HB1.out HN1.out) (by rw [HH.out]; omega) rfl rfl rfl HOld.out hg HL.out HFarM.out ho (hat.imp_right (fun h => by omega))
    have HS1 : Hid (∀ w1, ((W.alloc (.cells #[.string nm, .string vr, .slice vp1 vp2 vp3, .int .i64 k, .string f, .string n, .slice va1 va2 va3, .int .i64 k', .int .i64 n', .string f', .string s', .slice ve1 ve2 ve3] 89)).alloc (.cells #[.string nm, .string vr, .slice vp1 vp2 vp3, .int .i64 k, .string f, .string n, .slice va1 va2 va3, .int .i64 k', .int .i64 n', .string f', .string s', .slice ve1 ve2 ve3] 89)).drew.grownBy w1 (Value.slice la m lcap).ownBlock → w1.rangeAt W.heap.size 0 [.string nm, .string vr, .slice vp1 vp2 vp3, .int .i64 k, .string f, .string n, .slice va1 va2 va3, .int .i64 k', .int .i64 n', .string f', .string s', .slice ve1 ve2 ve3] ∧ w1.cell? ⟨bm, 0, none⟩ = some (.pointer (some ⟨M, 0, none⟩))) := by
      intro w1 hg
      refine ⟨fun j u hu => ?_, ?_⟩
      · rw [hg.cell_far _ (by rw [HH.out]; show W.heap.size < _; omega) (fun h => by have := ownsRow_in HOwn.out _ h.symm; have h2 : W.heap.size < W.heap.size := this.2; omega)]
        exact HX2.out.1 j u hu
      · rw [hg.cell_far _ (by rw [HH.out]; show bm < _; omega) (fun h => by have := HOldR.out _ h.symm; have h2 : bm < n1 := this; omega)]
        exact HX2.out.2
    refine wp_region_held_drew (S := fun w' => w'.rangeAt W.heap.size 0 [.string nm, .string vr, .slice vp1 vp2 vp3, .int .i64 k, .string f, .string n, .slice va1 va2 va3, .int .i64 k', .int .i64 n', .string f', .string s', .slice ve1 ve2 ve3] ∧ w'.cell? ⟨bm, 0, none⟩ = some (.pointer (some ⟨M, 0, none⟩))) (by kernel_rfl) HX1.out (fun hHeld => ?_)
    refine any_take 0 rfl rfl (by kernel_rfl) (by kernel_rfl) (by kernel_rfl) (fun _ _ _ h => h) (v := .pointer (some ⟨M, 0, none⟩)) (Or.inl ⟨by rfl, fun w hSw => by have hSm := hSw.2; clear hSw; go_simp⟩) hHeld ?_
    refine any_take 1 rfl rfl (by kernel_rfl) (by kernel_rfl) (by kernel_rfl) (fun _ _ _ h => h) (v := .pointer (some ⟨M, 0, none⟩)) (Or.inl ⟨by rfl, fun w hSw => by have hSm := hSw.2; clear hSw; go_simp⟩) hHeld ?_
    refine any_take 2 rfl rfl (by kernel_rfl) (by kernel_rfl) (by kernel_rfl) (fun _ _ _ h => h) (v := .pointer (some ⟨M, 0, none⟩)) (Or.inl ⟨by rfl, fun w _ => by go_simp⟩) hHeld ?_
    refine any_take 3 rfl rfl (by kernel_rfl) (by kernel_rfl) (by kernel_rfl) (fun _ _ _ h => h) (v := .pointer (some ⟨M, 2, none⟩)) (Or.inl ⟨by rfl, fun w _ => by go_simp⟩) hHeld ?_
    refine any_take 5 rfl rfl (by kernel_rfl) (by kernel_rfl) (by kernel_rfl) (fun _ _ _ h => h) (yieldsIf_load_mid (by rfl) _ _ rfl _ _ rfl [.string nm, .string vr, .slice vp1 vp2 vp3, .int .i64 k, .string f, .string n, .slice va1 va2 va3, .int .i64 k', .int .i64 n', .string f', .string s', .slice ve1 ve2 ve3] _ (fun _ h => h.1) Tryz.underlying89 rfl fuT_size) hHeld ?_
    refine any_two 4 6 (by kernel_rfl) rfl rfl rfl rfl (fun K hK => ?_) (fun K hK => ?_)
    · have HK := veil hK
      clear hK
      go_simp
      refine HK.out _ _ HX1.out ?_
      clear HK K
      refine any_one 6 (by kernel_rfl) rfl rfl (fun K hK => ?_)
      have HK := veil hK
      clear hK
      go_simp
      refine HK.out _ _ HX2.out ?_
      clear HK K
      refine any_one 7 (by kernel_rfl) rfl rfl (fun K hK => ?_)
      refine wp_append_lies _ _ _ _ rfl base 89 i0 _ 12 192 Tryz.underlying42 HI0.out HZ0.out HZ1.out HZ2.out rfl (by omega) (.slice la m lcap) m xs rfl (((HOwn.out.alloc _).alloc _).drew) ⟨W.heap.size + 1, 0, none⟩ 1 1 [.string nm, .string vr, .slice vp1 vp2 vp3, .int .i64 k, .string f, .string n, .slice va1 va2 va3, .int .i64 k', .int .i64 n', .string f', .string s', .slice ve1 ve2 ve3] rfl rfl HNews.out HOne.out (by omega) HNl.out HBy.out HBs.out (W.heap.size + 2) HH.out (fun g cap w1 hown1 hgrow hat hlt => ?_)
      have hS1 := HS1.out w1 hgrow
      refine hK _ _ hS1 ?_
      clear hK K
      obtain ⟨hc2, hf2⟩ := HC2.out w1 hgrow
      have HG := veil (HGr.out g cap w1 hown1 hgrow hat)
      have HF := veil (HFar.out g hat)
      have HSx := veil hS1.1
      have HSm := veil hS1.2
      clear hown1 hgrow
      refine any_take 8 rfl rfl (by kernel_rfl) (by kernel_rfl) (by kernel_rfl) (fun _ _ _ h => h) (v := .pointer (some ⟨M, 0, none⟩)) (Or.inl ⟨by rfl, fun w _ => by go_simp⟩) hS1 ?_
      refine any_take 9 rfl rfl (by kernel_rfl) (by kernel_rfl) (by kernel_rfl) (fun _ _ _ h => h) (v := .pointer (some ⟨M, 2, none⟩)) (Or.inl ⟨by rfl, fun w _ => by go_simp⟩) hS1 ?_
      refine any_one 10 (by kernel_rfl) rfl rfl (fun K hK => ?_)
      have HK := veil hK
      clear hK hS1
      go_simp
      refine HK.out _ _ ⟨fun j u hu => ?_, ?_⟩ (wpAnyH_done (by kernel_rfl) ⟨g, cap, rfl, HG.out⟩ _)
      · rw [World.cell?_setCell_other _ _ _ _ (by intro h; injection h with h _ _; omega)]
        exact HSx.out j u hu
      · rw [World.cell?_setCell_other _ _ _ _ (by intro h; injection h with h _ _; omega)]
        exact HSm.out
    · have HK := veil hK
      clear hK
      go_simp
      refine HK.out _ _ HX2.out ?_
      clear HK K
      refine any_one 4 (by kernel_rfl) rfl rfl (fun K hK => ?_)
      have HK := veil hK
      clear hK
      go_simp
      refine HK.out _ _ HX2.out ?_
      clear HK K
      refine any_one 7 (by kernel_rfl) rfl rfl (fun K hK => ?_)
      refine wp_append_lies _ _ _ _ rfl base 89 i0 _ 12 192 Tryz.underlying42 HI0.out HZ0.out HZ1.out HZ2.out rfl (by omega) (.slice la m lcap) m xs rfl (((HOwn.out.alloc _).alloc _).drew) ⟨W.heap.size + 1, 0, none⟩ 1 1 [.string nm, .string vr, .slice vp1 vp2 vp3, .int .i64 k, .string f, .string n, .slice va1 va2 va3, .int .i64 k', .int .i64 n', .string f', .string s', .slice ve1 ve2 ve3] rfl rfl HNews.out HOne.out (by omega) HNl.out HBy.out HBs.out (W.heap.size + 2) HH.out (fun g cap w1 hown1 hgrow hat hlt => ?_)
      have hS1 := HS1.out w1 hgrow
      refine hK _ _ hS1 ?_
      clear hK K
      obtain ⟨hc2, hf2⟩ := HC2.out w1 hgrow
      have HG := veil (HGr.out g cap w1 hown1 hgrow hat)
      have HF := veil (HFar.out g hat)
      have HSx := veil hS1.1
      have HSm := veil hS1.2
      clear hown1 hgrow
      refine any_take 8 rfl rfl (by kernel_rfl) (by kernel_rfl) (by kernel_rfl) (fun _ _ _ h => h) (v := .pointer (some ⟨M, 0, none⟩)) (Or.inl ⟨by rfl, fun w _ => by go_simp⟩) hS1 ?_
      refine any_take 9 rfl rfl (by kernel_rfl) (by kernel_rfl) (by kernel_rfl) (fun _ _ _ h => h) (v := .pointer (some ⟨M, 2, none⟩)) (Or.inl ⟨by rfl, fun w _ => by go_simp⟩) hS1 ?_
      refine any_one 10 (by kernel_rfl) rfl rfl (fun K hK => ?_)
      have HK := veil hK
      clear hK hS1
      go_simp
      refine HK.out _ _ ⟨fun j u hu => ?_, ?_⟩ (wpAnyH_done (by kernel_rfl) ⟨g, cap, rfl, HG.out⟩ _)
      · rw [World.cell?_setCell_other _ _ _ _ (by intro h; injection h with h _ _; omega)]
        exact HSx.out j u hu
      · rw [World.cell?_setCell_other _ _ _ _ (by intro h; injection h with h _ _; omega)]
        exact HSm.out

end Go.Proofs.YtagbaimfigljiaaGreatDoor
namespace Go.Proofs.YtagbaimfigljiaaGreatDoor
open Go.RowKit
set_option maxRecDepth 100000

theorem st_info : (Tryz.prog.info? 9).map (fun i => (i.zero, i.size, i.bytes)) = some (some (.string ⟨#[]⟩), 1, 16) := by kernel_rfl

theorem rd_form {B : Nat} {l : Toks} {i : Nat} {w : World} (h : RdAt B l i w) : ∃ ta tcap, w.heap[B]? = some (.cells #[.slice ta l.length tcap, .int .i64 i] 181 (0, 0)) := by
  obtain ⟨tv, h1, ⟨_, ⟨rfl, a, cap, rfl⟩ | ⟨b, off, cap, rfl, _⟩⟩, _⟩ := h
  · exact ⟨a, cap, h1⟩
  · exact ⟨_, cap, h1⟩

set_option maxHeartbeats 4000000 in
theorem use_next (R : Int → World → Prop) (base M n1 B : Nat) (cells : Array Value) (la : Option Addr) (lcap m : Nat) (xs : List Value) (l : Toks) (i : Nat) (w : World)
    (hr : RdAt B l i w) (hl : w.heap[M]? = some (.cells cells 44 (0, 0))) (hcell : cells[0]? = some (.slice la m lcap)) (hown : w.ownsRow base 9 1 (.slice la m lcap) m xs) (hold : ∀ g, (Value.slice la m lcap).ownBlock = some g → g < n1) (hM : M < base) (hb1 : base ≤ n1) (hB : n1 ≤ B)
    (hn : m + 1 ≤ maxLen) (hb : (m + 1) * 16 ≤ 140737488355328)
    (hbad : identAt l i = none → ∀ w', Moved B w w' → R 4 w')
    (hok : ∀ t, identAt l i = some t → t.size ≤ maxLen → ∀ g cap w1 w2 w', Moved B w w1 → GrewM base M 0 cells 9 1 (.slice la m lcap) (.slice (some ⟨g, 0, none⟩) (m + 1) cap) (m + 1) (xs ++ [.string t]) w1 w2 → Below w2.heap.size w2 w' → R (if l.length ≤ i + 1 then 0 else 4) w') :
    Calls Tryz.prog 121 #[.pointer (some ⟨B, 0, none⟩), .pointer (some ⟨M, 0, none⟩)] w (Ends R) := by
  obtain ⟨i0, hi0, hz0, hz1, hz2⟩ := info_parts st_info
  have HI0 := veil hi0
  have HZ0 := veil hz0
  have HZ1 := veil hz1
  have HZ2 := veil hz2
  have HL := veil hl
  have HCell := veil hcell
  have HOwn := veil hown
  have HOldR := veil hold
  have HM := veil hM
  have HB1 := veil hb1
  have HNl := veil hn
  have HBy := veil hb
  have HBad := veil hbad
  have HOk := veil hok
  have HH := veil hr
  have hBw := rd_lt hr
  have hMB : B ≠ M := by omega
  clear hl hcell hown hold hn hb hbad hok hr hi0 hz0 hz1 hz2
  go_enter Tryz.func121, Tryz.ntmps121
  go_wp2_with fail
  refine (ident_next B l i w HH.out).mono ?_
  rintro e w1 ⟨hm, ⟨hi, t, i', rfl, hr⟩ | ⟨t, hi, hok, rfl, hr⟩⟩
  · have HB := veil (HBad.out hi w1 hm)
    clear hm hi hr HBad HOk
    go_wp2_with fail
    go_ret
    exact ⟨_, rfl, HB.out⟩
  · have hsz := hm.below.size
    have HRes := veil (fun g cap w2 w' => HOk.out t hi (ident_le hok) g cap w1 w2 w' hm)
    have hl1 : w1.heap[M]? = some (.cells cells 44 (0, 0)) := (hm.below.block M (by omega)).trans HL.out
    have HL1 := veil hl1
    have HOwn1 : Hid (w1.ownsRow base 9 1 (.slice la m lcap) m xs) := by
      refine ⟨HOwn.out.1, HOwn.out.2.imp_right ?_⟩
      rintro ⟨g, cap, cur, e, hb, hg, hr⟩
      exact ⟨g, cap, cur, e, hb, (hm.below.block g (by have := HOldR.out g (by rw [e]; rfl); omega)).trans hg, hr⟩
    obtain ⟨ta, tcap, hrd⟩ := rd_form hr
    have HRd := veil hrd
    have hMW : M < w1.heap.size := by omega
    have hcM : w1.cell? ⟨M, 0, none⟩ = some (.slice la m lcap) := by rw [cell_of_row w1 M 0 _ _ _ hl1]; exact HCell.out
    have HHs : Hid ((w1.alloc (.cells #[.string t] 9)).heap.size = w1.heap.size + 1) := by show _ = _; simp
    have HBs : Hid (base ≤ (w1.alloc (.cells #[.string t] 9)).heap.size) := by show _ ≤ _; rw [HHs.out]; omega
    have HFarM : Hid (some M ≠ (Value.slice la m lcap).ownBlock) := fun h => by have := ownsRow_in HOwn.out _ h.symm; omega
    have HOld : Hid (∀ k', k' < w1.heap.size → (w1.alloc (.cells #[.string t] 9)).heap[k']? = w1.heap[k']?) := fun k' hk' => heap_alloc_old _ _ hk'
    have HNews : Hid (∀ j u, ([.string t] : List Value)[j]? = some u → (w1.alloc (.cells #[.string t] 9)).cell? ((⟨w1.heap.size, 0, none⟩ : Addr).add j) = some u) :=
      World.news_of_block (cs := #[.string t]) (t := 9) (fr := (0, 0)) (heap_alloc_new w1 _)
    have HOne : Hid (∀ u ∈ ([.string t] : List Value), u.oneCell' = true) := by intro u hu; simp at hu; subst hu; rfl
    have HC2 : Hid (∀ w2, (w1.alloc (.cells #[.string t] 9)).grownBy w2 (Value.slice la m lcap).ownBlock → w2.cell? ⟨M, 0, none⟩ = some (.slice la m lcap) ∧ w2.frozen? ⟨M, 0, none⟩ = false) := by
      intro w2 hg
      have hb1 : w2.heap[M]? = some (.cells cells 44 (0, 0)) := (hg.block M (by rw [HHs.out]; omega) HFarM.out).trans ((HOld.out M hMW).trans HL1.out)
      exact ⟨by rw [cell_of_row w2 M 0 _ _ _ hb1]; exact HCell.out, Lib.frozen_of_heap hb1 0⟩
    have HGr : Hid (∀ g' cap' w2, w2.ownsRow base 9 1 (.slice (some ⟨g', 0, none⟩) (m + 1) cap') (m + 1) (xs ++ [.string t]) → (w1.alloc (.cells #[.string t] 9)).grownBy w2 (Value.slice la m lcap).ownBlock → ((Value.slice la m lcap).ownBlock = some g' ∨ g' = w1.heap.size + 1) → GrewM base M 0 cells 9 1 (.slice la m lcap) (.slice (some ⟨g', 0, none⟩) (m + 1) cap') (m + 1) (xs ++ [.string t]) w1 (w2.setCell ⟨M, 0, none⟩ (.slice (some ⟨g', 0, none⟩) (m + 1) cap'))) := fun g' cap' w2 ho hg hat =>
      grewM_store (W0 := w1.alloc (.cells #[.string t] 9)) HM.out (by omega) (by rw [HHs.out]; omega) rfl rfl rfl HOld.out hg HL1.out HFarM.out ho (hat.imp_right (fun h => by omega))
    clear hm hi hr hok hrd hl1 HBad HOk
    go_wp2_with (at_builtin; refine wpList_append_lies _ rfl _ _ 22 rfl base 9 i0 _ 1 16 Tryz.underlying22 HI0.out HZ0.out HZ1.out HZ2.out rfl (by decide) (.slice la m lcap) m xs rfl (HOwn1.out.alloc _) ⟨w1.heap.size, 0, none⟩ 1 1 [.string t] rfl rfl HNews.out HOne.out (by decide) HNl.out HBy.out HBs.out (w1.heap.size + 1) HHs.out (fun g' cap' w2 hown2 hgrow hat hlt => ?_); obtain ⟨hc2, hf2⟩ := HC2.out w2 hgrow; have HG := veil (HGr.out g' cap' w2 hown2 hgrow hat); clear hown2 hgrow hat hlt)
    have HRd2 : Hid ((w2.setCell ⟨M, 0, none⟩ (.slice (some ⟨g', 0, none⟩) (m + 1) cap')).heap[B]? = some (.cells #[.slice ta l.length tcap, .int .i64 ((i + 1 : Nat) : Int)] 181 (0, 0))) :=
      (HG.out.rest B (by omega) hMB (fun e => by have := HOldR.out B e.symm; omega)).trans HRd.out
    have HRes2 := veil (fun w' => HRes.out g' cap' _ w' HG.out)
    clear HG HRes
    generalize w2.setCell ⟨M, 0, none⟩ (.slice (some ⟨g', 0, none⟩) (m + 1) cap') = w3 at *
    refine (end_next B ta l.length tcap (i + 1) w3 HRd2.out).mono ?_
    rintro e w' ⟨rfl, hb⟩
    have HF := veil (HRes2.out w' hb)
    clear hb
    generalize (if l.length ≤ i + 1 then (0 : Int) else 4) = y at *
    go_wp2_with fail
    go_ret
    exact ⟨_, rfl, HF.out⟩

end Go.Proofs.YtagbaimfigljiaaGreatDoor
namespace Go.Proofs.YtagbaimfigljiaaGreatDoor
open Go.RowKit
set_option maxRecDepth 100000

/-- the reader's operand, and its something, read as 'pTail' and 'pHead' say. -/
def OperandReads (f d : Nat) : Prop := ∀ (B : Nat) (l : Toks) (i : Nat) (w : World) (g : Nat) (lb : Array Value), (∀ args w, (callFunc g args).run Tryz.prog w = .ok (.enter g args) w) → ∀ (R : Int → World → Prop), RdAt B l i w →
    (∀ e, pTail (pEx l f) l i = .bad e → ∀ w', Moved B w w' → R e w') →
    (∀ x j, pTail (pEx l f) l i = .ok x j → ∀ w' v, Moved B w w' → RdAt B l j w' → ExIs (Fresh w.heap.size w') w' x v → Calls Tryz.prog g (#[v] ++ lb) w' (Ends R)) →
    Calls Tryz.prog 274 #[.pointer (some ⟨B, 0, none⟩), .int .i64 d, .func (.func g) #[] lb] w (Ends R)
def HeadReads (f d : Nat) : Prop := ∀ (B : Nat) (l : Toks) (i : Nat) (w : World) (g : Nat) (lb : Array Value), (∀ args w, (callFunc g args).run Tryz.prog w = .ok (.enter g args) w) → ∀ (R : Int → World → Prop), RdAt B l i w →
    (∀ e, pHead (pEx l f) l i = .bad e → ∀ w', Moved B w w' → R e w') →
    (∀ x j, pHead (pEx l f) l i = .ok x j → ∀ w' v, Moved B w w' → RdAt B l j w' → ExIs (Fresh w.heap.size w') w' x v → Calls Tryz.prog g (#[v] ++ lb) w' (Ends R)) →
    Calls Tryz.prog 316 #[.pointer (some ⟨B, 0, none⟩), .int .i64 d, .func (.func g) #[] lb] w (Ends R)

set_option maxHeartbeats 2000000 in
/-- behind the second operand of a sum; 'self': the closure that goes on behind it. -/
theorem sum_back (B : Nat) (l : Toks) (n0 j bp bx self : Nat) (caps : Array Value) (es : ∀ args w, (callFunc self args).run Tryz.prog w = .ok (.enter self args) w) (R : Int → World → Prop) (x p : Ex) (W : World) (k nu ke ne : Int) (fo s fe se : ByteArray) (va1 ve1 : Option Addr) (va2 va3 ve2 ve3 : Nat)
    (hBn : B < n0) (hnW : n0 ≤ W.heap.size) (hr : RdAt B l j W) (kp : W.cell? ⟨bp, 0, none⟩ = some (.func (.func self) #[] caps))
    (b0 : W.cell? ⟨bx, 0, none⟩ = some (.int .i64 k)) (b1 : W.cell? ⟨bx, 1, none⟩ = some (.int .i64 nu)) (b2 : W.cell? ⟨bx, 2, none⟩ = some (.string fo)) (b3 : W.cell? ⟨bx, 3, none⟩ = some (.string s)) (b4 : W.cell? ⟨bx, 4, none⟩ = some (.slice va1 va2 va3))
    (hx : ExCs (Fresh n0 W) W x k nu fo s (.slice va1 va2 va3)) (hp : ExCs (Fresh n0 W) W p ke ne fe se (.slice ve1 ve2 ve3))
    (hok : ∀ w' v, Moved B W w' → RdAt B l j w' → ExIs (Fresh n0 w') w' (exSum x p) v → Calls Tryz.prog self (#[v] ++ caps) w' (Ends R)) :
    Calls Tryz.prog 275 #[.agg #[.int .i64 ke, .int .i64 ne, .string fe, .string se, .slice ve1 ve2 ve3], .pointer (some ⟨bp, 0, none⟩), .pointer (some ⟨bx, 0, none⟩)] W (Ends R) := by
  have hlt := rd_lt hr
  have hbpW := World.block_lt_of_cell? W _ kp
  have hbxW : bx < W.heap.size := World.block_lt_of_cell? W _ b0
  have hal : Below W.heap.size W ((W.alloc (.cells #[.int .i64 ke, .int .i64 ne, .string fe, .string se, .slice ve1 ve2 ve3] 87)).alloc (.cells #[.int .i64 k, .int .i64 nu, .string fo, .string s, .slice va1 va2 va3, .int .i64 ke, .int .i64 ne, .string fe, .string se, .slice ve1 ve2 ve3] 87)) := ((Below.refl _ _).alloc (Nat.le_refl _) _).alloc (by simp) _
  have hm2 : Moved B W ((W.alloc (.cells #[.int .i64 ke, .int .i64 ne, .string fe, .string se, .slice ve1 ve2 ve3] 87)).alloc (.cells #[.int .i64 k, .int .i64 nu, .string fo, .string s, .slice va1 va2 va3, .int .i64 ke, .int .i64 ne, .string fe, .string se, .slice ve1 ve2 ve3] 87)) := Moved.of_below hal (by omega)
  have HK := veil (hok _ _ hm2 (rd_below hr hal) (ex_two (W := W.alloc (.cells #[.int .i64 ke, .int .i64 ne, .string fe, .string se, .slice ve1 ve2 ve3] 87)) (by simp; omega) (hx.keep (fresh_keeps hBn hm2)) (hp.keep (fresh_keeps hBn hm2)) 5))
  have hbpW' : bp < W.heap.size := hbpW
  rw [show (W.alloc (.cells #[.int .i64 ke, .int .i64 ne, .string fe, .string se, .slice ve1 ve2 ve3] 87)).heap.size = W.heap.size + 1 by simp] at HK
  clear hok hx hp hr hal hm2
  go_enter Tryz.func275, Tryz.ntmps275
  go_wp2_with fail
  refine HK.out.mono ?_
  rintro e w' ⟨y, rfl, hy⟩
  have HY := veil hy
  clear hy
  go_wp2_with fail
  go_ret
  exact ⟨_, rfl, HY.out⟩

set_option maxHeartbeats 4000000 in
theorem sums_next (f d : Nat) (hE : OperandReads f d) (B : Nat) (l : Toks) (n0 : Nat) (g : Nat) (lb : Array Value) (eg : ∀ args w, (callFunc g args).run Tryz.prog w = .ok (.enter g args) w) (R : Int → World → Prop) (br bk bd bp : Nat) (hBn : B < n0) :
    ∀ (n i : Nat) (x : Ex) (v : Value) (W : World), l.length - i < n → RdAt B l i W → ExIs (Fresh n0 W) W x v → Boxes B d g lb 273 br bk bd bp W → n0 ≤ W.heap.size →
    (∀ e, pSums (pEx l f) l n x i = .bad e → ∀ w', Moved B W w' → R e w') →
    (∀ y j, pSums (pEx l f) l n x i = .ok y j → ∀ w' v', Moved B W w' → RdAt B l j w' → ExIs (Fresh n0 w') w' y v' → Calls Tryz.prog g (#[v'] ++ lb) w' (Ends R)) →
    Calls Tryz.prog 273 #[v, .pointer (some ⟨br, 0, none⟩), .pointer (some ⟨bk, 0, none⟩), .pointer (some ⟨bd, 0, none⟩), .pointer (some ⟨bp, 0, none⟩)] W (Ends R) := by
  intro n
  induction n with
  | zero => intro i x v W hn; omega
  | succ n ih =>
    intro i x v W hn hr hx hbx hnW hbad hok
    obtain ⟨k, nu, fo, s, va, rfl, hcs⟩ := hx
    obtain ⟨va1, va2, va3, rfl⟩ := hcs.slice
    have HIH := veil ih
    have HEg := veil eg
    have HE := veil hE
    have HBad := veil hbad
    have HOk := veil hok
    have HC := veil hcs
    have HBx := veil hbx
    have hlt := rd_lt hr
    have hal : Below W.heap.size W (W.alloc (.cells #[.int .i64 k, .int .i64 nu, .string fo, .string s, .slice va1 va2 va3] 87)) := (Below.refl _ _).alloc (Nat.le_refl _) _
    have HM0 : Hid (Moved B W (W.alloc (.cells #[.int .i64 k, .int .i64 nu, .string fo, .string s, .slice va1 va2 va3] 87))) := Moved.of_below hal (by omega)
    have HR0 := veil (rd_below hr hal)
    have HP : Hid (pSums (pEx l f) l (n + 1) x i = if sgn l i [43] = true then (match pTail (pEx l f) l (i + 1) with
      | .bad e => .bad e
      | .ok y j => pSums (pEx l f) l n (exSum x y) j) else .ok x i) := by show _ = _; rw [pSums]; rfl
    have hB0 := hbx.keep HM0.out
    have c1 := hB0.r
    have hef := makeFunc_run
    have HB0 := veil hB0
    clear hbad hok hr ih hal eg hcs hbx hE hB0
    go_enter Tryz.func273, Tryz.ntmps273
    go_wp2_with fail
    refine (sign_next B l i ⟨#[43]⟩ _ HR0.out).mono ?_
    rintro e w1 ⟨rfl, q1, q2⟩
    have HN1 := veil q2
    have HM1 := veil (HM0.out.trans q2)
    have hsz1 : W.heap.size + 1 ≤ w1.heap.size := by have := q2.below.size; simpa using this
    have hB1 := HB0.out.keep q2
    have e0 : w1.cell? ⟨W.heap.size, 0, none⟩ = some (.int .i64 k) := (q2.cell (by omega) (by simp) 0).trans (World.cell?_alloc_at _ _ _ _ rfl)
    have e1 : w1.cell? ⟨W.heap.size, 1, none⟩ = some (.int .i64 nu) := (q2.cell (by omega) (by simp) 1).trans (World.cell?_alloc_at _ _ _ _ rfl)
    have e2 : w1.cell? ⟨W.heap.size, 2, none⟩ = some (.string fo) := (q2.cell (by omega) (by simp) 2).trans (World.cell?_alloc_at _ _ _ _ rfl)
    have e3 : w1.cell? ⟨W.heap.size, 3, none⟩ = some (.string s) := (q2.cell (by omega) (by simp) 3).trans (World.cell?_alloc_at _ _ _ _ rfl)
    have e4 : w1.cell? ⟨W.heap.size, 4, none⟩ = some (.slice va1 va2 va3) := (q2.cell (by omega) (by simp) 4).trans (World.cell?_alloc_at _ _ _ _ rfl)
    have k1 := hB1.r
    have k2 := hB1.k
    have k3 := hB1.d
    have HB1 := veil hB1
    clear hB1 c1
    cases hs : sgn l i [43]
    · have hs' : sgn l i (ByteArray.mk #[43]).data.toList = false := hs
      rw [hs'] at q1
      rw [if_neg (by rw [hs]; simp)] at HP
      have HK := veil (HOk.out _ _ HP.out w1 _ HM1.out q1 ⟨_, _, _, _, _, rfl, HC.out.keep (fresh_keeps hBn HM1.out)⟩)
      have eg := HEg.out
      try rw [hs']
      clear q1 q2 HBad HOk
      go_wp2_with fail
      refine HK.out.mono ?_
      rintro e w' ⟨y, rfl, hy⟩
      have HY := veil hy
      clear hy
      go_wp2_with fail
      go_ret
      exact ⟨_, rfl, HY.out⟩
    · have hs' : sgn l i (ByteArray.mk #[43]).data.toList = true := hs
      have hil := sgn_lt hs
      rw [hs'] at q1
      rw [if_pos hs] at HP
      have HR1 : Hid (RdAt B l (i + 1) w1) := q1
      have cI := HE.out B l (i + 1) w1 275 #[.pointer (some ⟨bp, 0, none⟩), .pointer (some ⟨W.heap.size, 0, none⟩)] (enters_of Tryz.func275 (by kernel_rfl) rfl) R HR1.out
        (fun e he w' hm => HBad.out e (by rw [HP.out, he]) w' (HM1.out.trans hm))
        (fun p j hp W2 v hm hr2 hv => by
          have hadv := pTail_adv (fun i x j => pEx_adv f i x j) hp
          have hm2 := HM1.out.trans hm
          have hB2 := HB1.out.keep hm
          have hsz2 := hm.below.size
          have b0 := (hm.cell (c := W.heap.size) (by omega) (by omega) 0).trans e0
          have b1 := (hm.cell (c := W.heap.size) (by omega) (by omega) 1).trans e1
          have b2 := (hm.cell (c := W.heap.size) (by omega) (by omega) 2).trans e2
          have b3 := (hm.cell (c := W.heap.size) (by omega) (by omega) 3).trans e3
          have b4 := (hm.cell (c := W.heap.size) (by omega) (by omega) 4).trans e4
          have hv2 := ex_wider (n := n0) (by omega) hv
          obtain ⟨ke, ne, fe, se, ve, rfl, hce⟩ := hv2
          obtain ⟨ve1, ve2, ve3, rfl⟩ := hce.slice
          have hcx := HC.out.keep (fresh_keeps hBn hm2)
          exact sum_back B l n0 j bp W.heap.size 273 #[.pointer (some ⟨br, 0, none⟩), .pointer (some ⟨bk, 0, none⟩), .pointer (some ⟨bd, 0, none⟩), .pointer (some ⟨bp, 0, none⟩)] (enters_of Tryz.func273 (by kernel_rfl) rfl) R x p W2 k nu ke ne fo s fe se va1 ve1 va2 va3 ve2 ve3 hBn (by omega) hr2 hB2.p b0 b1 b2 b3 b4 hcx hce
            (fun w' v' hm' hr' hv' => HIH.out j (exSum x p) v' w' (by omega) hr' hv' (hB2.keep hm') (by have := hm'.below.size; omega)
              (fun e he w'' hm'' => HBad.out e (by rw [HP.out, hp]; exact he) w'' ((hm2.trans hm').trans hm''))
              (fun y j' hy w'' v'' hm'' hr'' hv'' => HOk.out y j' (by rw [HP.out, hp]; exact hy) w'' v'' ((hm2.trans hm').trans hm'') hr'' hv'')))
      have HCI := veil cI
      try rw [hs']
      clear q1 q2 HBad HOk cI
      go_wp2_with fail
      refine HCI.out.mono ?_
      rintro e w' ⟨y, rfl, hy⟩
      have HY := veil hy
      clear hy
      go_wp2_with fail
      go_ret
      exact ⟨_, rfl, HY.out⟩

set_option maxHeartbeats 2000000 in
theorem operand_next (f d : Nat) (hd1 : d < 100) (hE : ExprReads f (d + 1)) (hH : HeadReads f d) : OperandReads f d := by
  intro B l i w g lb eg R hr hbad hok
  have hlt := rd_lt hr
  have hal : Below w.heap.size w ((((w.alloc (.cells #[.pointer (some ⟨B, 0, none⟩)] 179)).alloc (.cells #[.int .i64 d] 3)).alloc (.cells #[.func (.func g) #[] lb] 249)).alloc (.cells #[.func (.func 314) #[] #[.pointer (some ⟨w.heap.size, 0, none⟩), .pointer (some ⟨w.heap.size + 2, 0, none⟩), .pointer (some ⟨w.heap.size + 1, 0, none⟩), .pointer (some ⟨w.heap.size + 3, 0, none⟩)]] 249)) := ((((Below.refl _ _).alloc (Nat.le_refl _) _).alloc (by simp) _).alloc (by simp; omega) _).alloc (by simp; omega) _
  have hm : Moved B w ((((w.alloc (.cells #[.pointer (some ⟨B, 0, none⟩)] 179)).alloc (.cells #[.int .i64 d] 3)).alloc (.cells #[.func (.func g) #[] lb] 249)).alloc (.cells #[.func (.func 314) #[] #[.pointer (some ⟨w.heap.size, 0, none⟩), .pointer (some ⟨w.heap.size + 2, 0, none⟩), .pointer (some ⟨w.heap.size + 1, 0, none⟩), .pointer (some ⟨w.heap.size + 3, 0, none⟩)]] 249)) := Moved.of_below hal (by omega)
  have hbx : Boxes B d g lb 314 w.heap.size (w.heap.size + 2) (w.heap.size + 1) (w.heap.size + 3) ((((w.alloc (.cells #[.pointer (some ⟨B, 0, none⟩)] 179)).alloc (.cells #[.int .i64 d] 3)).alloc (.cells #[.func (.func g) #[] lb] 249)).alloc (.cells #[.func (.func 314) #[] #[.pointer (some ⟨w.heap.size, 0, none⟩), .pointer (some ⟨w.heap.size + 2, 0, none⟩), .pointer (some ⟨w.heap.size + 1, 0, none⟩), .pointer (some ⟨w.heap.size + 3, 0, none⟩)]] 249)) := by
    refine ⟨?_, ?_, ?_, World.cell?_alloc_at _ _ _ _ (by simp), by omega, by omega, by omega, by omega⟩
    · exact (World.cell?_alloc_old _ _ _ (by first | (simp; done) | (simp; omega))).trans ((World.cell?_alloc_old _ _ _ (by first | (simp; done) | (simp; omega))).trans ((World.cell?_alloc_old _ _ _ (by first | (simp; done) | (simp; omega))).trans (World.cell?_alloc_at _ _ _ _ rfl)))
    · exact (World.cell?_alloc_old _ _ _ (by first | (simp; done) | (simp; omega))).trans (World.cell?_alloc_at _ _ _ _ (by simp))
    · exact (World.cell?_alloc_old _ _ _ (by first | (simp; done) | (simp; omega))).trans ((World.cell?_alloc_old _ _ _ (by first | (simp; done) | (simp; omega))).trans (World.cell?_alloc_at _ _ _ _ (by simp)))
  have cI := hH B l i ((((w.alloc (.cells #[.pointer (some ⟨B, 0, none⟩)] 179)).alloc (.cells #[.int .i64 d] 3)).alloc (.cells #[.func (.func g) #[] lb] 249)).alloc (.cells #[.func (.func 314) #[] #[.pointer (some ⟨w.heap.size, 0, none⟩), .pointer (some ⟨w.heap.size + 2, 0, none⟩), .pointer (some ⟨w.heap.size + 1, 0, none⟩), .pointer (some ⟨w.heap.size + 3, 0, none⟩)]] 249)) 314 #[.pointer (some ⟨w.heap.size, 0, none⟩), .pointer (some ⟨w.heap.size + 2, 0, none⟩), .pointer (some ⟨w.heap.size + 1, 0, none⟩), .pointer (some ⟨w.heap.size + 3, 0, none⟩)] (enters_of Tryz.func314 (by kernel_rfl) rfl) R (rd_below hr hal)
    (fun e he w' hm' => hbad e (by rw [pTail, he]) w' (hm.trans hm'))
    (fun x j hx w' v hm' hr' hv => places_next f d hd1 hE B l w.heap.size g lb eg R w.heap.size (w.heap.size + 2) (w.heap.size + 1) (w.heap.size + 3) hlt (l.length + 1) j x v w' (by omega) hr' (ex_wider (by simp; omega) hv) (hbx.keep hm') (by have := hm'.below.size; simp at this; omega)
      (fun e he w'' hm'' => hbad e (by rw [pTail, hx]; exact he) w'' ((hm.trans hm').trans hm''))
      (fun y j' hy w'' v' hm'' hr'' hv' => hok y j' (by rw [pTail, hx]; exact hy) w'' v' ((hm.trans hm').trans hm'') hr'' hv'))
  have HCI := veil cI
  have hef := makeFunc_run
  clear cI hbad hok hr hal hm hbx hH eg
  go_enter Tryz.func274, Tryz.ntmps274
  go_wp2_with fail
  refine HCI.out.mono ?_
  rintro e w' ⟨y, rfl, hy⟩
  have HY := veil hy
  clear hy
  go_wp2_with fail
  go_ret
  exact ⟨_, rfl, HY.out⟩

theorem expr_zero (d : Nat) (hd : 40 < d) (hd2 : d < 100) : ExprReads 0 d := by
  intro B l i w g lb eg R hr hbad hok
  have hlt := rd_lt hr
  have hd' : (40 : Int) < (d : Int) := by omega
  have HB := veil (hbad 1 (by rw [pEx]) (((w.alloc (.cells #[.pointer (some ⟨B, 0, none⟩)] 179)).alloc (.cells #[.int .i64 d] 3)).alloc (.cells #[.func (.func g) #[] lb] 249)) (((Moved.of_below ((Below.refl _ _).alloc (Nat.le_refl _) _) (by omega)).alloc (by simp; omega) _).alloc (by simp; omega) _))
  clear hbad hok eg hr hd2
  go_enter Tryz.func202, Tryz.ntmps202
  go_wp2_with fail
  go_ret
  exact ⟨_, rfl, HB.out⟩

set_option maxHeartbeats 2000000 in
theorem expr_succ (f d : Nat) (hd1 : d ≤ 40) (hH : OperandReads f d) : ExprReads (f + 1) d := by
  intro B l i w g lb eg R hr hbad hok
  have hH' := hH
  have hlt := rd_lt hr
  have hal : Below w.heap.size w ((((w.alloc (.cells #[.pointer (some ⟨B, 0, none⟩)] 179)).alloc (.cells #[.int .i64 d] 3)).alloc (.cells #[.func (.func g) #[] lb] 249)).alloc (.cells #[.func (.func 273) #[] #[.pointer (some ⟨w.heap.size, 0, none⟩), .pointer (some ⟨w.heap.size + 2, 0, none⟩), .pointer (some ⟨w.heap.size + 1, 0, none⟩), .pointer (some ⟨w.heap.size + 3, 0, none⟩)]] 249)) := ((((Below.refl _ _).alloc (Nat.le_refl _) _).alloc (by simp) _).alloc (by simp; omega) _).alloc (by simp; omega) _
  have hm : Moved B w ((((w.alloc (.cells #[.pointer (some ⟨B, 0, none⟩)] 179)).alloc (.cells #[.int .i64 d] 3)).alloc (.cells #[.func (.func g) #[] lb] 249)).alloc (.cells #[.func (.func 273) #[] #[.pointer (some ⟨w.heap.size, 0, none⟩), .pointer (some ⟨w.heap.size + 2, 0, none⟩), .pointer (some ⟨w.heap.size + 1, 0, none⟩), .pointer (some ⟨w.heap.size + 3, 0, none⟩)]] 249)) := Moved.of_below hal (by omega)
  have hbx : Boxes B d g lb 273 w.heap.size (w.heap.size + 2) (w.heap.size + 1) (w.heap.size + 3) ((((w.alloc (.cells #[.pointer (some ⟨B, 0, none⟩)] 179)).alloc (.cells #[.int .i64 d] 3)).alloc (.cells #[.func (.func g) #[] lb] 249)).alloc (.cells #[.func (.func 273) #[] #[.pointer (some ⟨w.heap.size, 0, none⟩), .pointer (some ⟨w.heap.size + 2, 0, none⟩), .pointer (some ⟨w.heap.size + 1, 0, none⟩), .pointer (some ⟨w.heap.size + 3, 0, none⟩)]] 249)) := by
    refine ⟨?_, ?_, ?_, World.cell?_alloc_at _ _ _ _ (by simp), by omega, by omega, by omega, by omega⟩
    · exact (World.cell?_alloc_old _ _ _ (by first | (simp; done) | (simp; omega))).trans ((World.cell?_alloc_old _ _ _ (by first | (simp; done) | (simp; omega))).trans ((World.cell?_alloc_old _ _ _ (by first | (simp; done) | (simp; omega))).trans (World.cell?_alloc_at _ _ _ _ rfl)))
    · exact (World.cell?_alloc_old _ _ _ (by first | (simp; done) | (simp; omega))).trans (World.cell?_alloc_at _ _ _ _ (by simp))
    · exact (World.cell?_alloc_old _ _ _ (by first | (simp; done) | (simp; omega))).trans ((World.cell?_alloc_old _ _ _ (by first | (simp; done) | (simp; omega))).trans (World.cell?_alloc_at _ _ _ _ (by simp)))
  have cI := hH B l i ((((w.alloc (.cells #[.pointer (some ⟨B, 0, none⟩)] 179)).alloc (.cells #[.int .i64 d] 3)).alloc (.cells #[.func (.func g) #[] lb] 249)).alloc (.cells #[.func (.func 273) #[] #[.pointer (some ⟨w.heap.size, 0, none⟩), .pointer (some ⟨w.heap.size + 2, 0, none⟩), .pointer (some ⟨w.heap.size + 1, 0, none⟩), .pointer (some ⟨w.heap.size + 3, 0, none⟩)]] 249)) 273 #[.pointer (some ⟨w.heap.size, 0, none⟩), .pointer (some ⟨w.heap.size + 2, 0, none⟩), .pointer (some ⟨w.heap.size + 1, 0, none⟩), .pointer (some ⟨w.heap.size + 3, 0, none⟩)] (enters_of Tryz.func273 (by kernel_rfl) rfl) R (rd_below hr hal)
    (fun e he w' hm' => hbad e (by rw [pEx, he]) w' (hm.trans hm'))
    (fun x j hx w' v hm' hr' hv => sums_next f d hH' B l w.heap.size g lb eg R w.heap.size (w.heap.size + 2) (w.heap.size + 1) (w.heap.size + 3) hlt (l.length + 1) j x v w' (by omega) hr' (ex_wider (by simp; omega) hv) (hbx.keep hm') (by have := hm'.below.size; simp at this; omega)
      (fun e he w'' hm'' => hbad e (by rw [pEx, hx]; exact he) w'' ((hm.trans hm').trans hm''))
      (fun y j' hy w'' v' hm'' hr'' hv' => hok y j' (by rw [pEx, hx]; exact hy) w'' v' ((hm.trans hm').trans hm'') hr'' hv'))
  have HCI := veil cI
  have hef := makeFunc_run
  have hd' : ¬ (40 : Int) < (d : Int) := by omega
  clear cI hbad hok hr hal hm hbx hH hH' eg
  go_enter Tryz.func202, Tryz.ntmps202
  go_wp2_with fail
  refine HCI.out.mono ?_
  rintro e w' ⟨y, rfl, hy⟩
  have HY := veil hy
  clear hy
  go_wp2_with fail
  go_ret
  exact ⟨_, rfl, HY.out⟩

end Go.Proofs.YtagbaimfigljiaaGreatDoor
