import Derived.Test.YtagbaimfigljiaaGreatDoorJModuleUses6
namespace Go.Proofs.YtagbaimfigljiaaGreatDoor
open Go.RowKit
set_option maxRecDepth 100000

theorem fdT_size : (Tryz.prog.info? 101).map (·.size) = some 5 := by kernel_rfl
theorem fuT_size : (Tryz.prog.info? 89).map (·.size) = some 12 := by kernel_rfl
theorem fu_info : (Tryz.prog.info? 89).map (fun i => (i.zero, i.size, i.bytes)) = some (some (.agg #[.string ⟨#[]⟩, .string ⟨#[]⟩, .slice none 0 0, .int .i64 0, .string ⟨#[]⟩, .string ⟨#[]⟩, .slice none 0 0, .int .i64 0, .int .i64 0, .string ⟨#[]⟩, .string ⟨#[]⟩, .slice none 0 0]), 12, 192) := by kernel_rfl

set_option maxHeartbeats 1000000 in
theorem end_next (B : Nat) (ta : Option Addr) (tn tcap j : Nat) (w : World) (h : w.heap[B]? = some (.cells #[.slice ta tn tcap, .int .i64 j] 181 (0, 0))) :
    Calls Tryz.prog 124 #[.pointer (some ⟨B, 0, none⟩)] w fun e w' => e = .returned (.int .i64 (if tn ≤ j then 0 else 4)) ∧ Below w.heap.size w w' := by
  have c0 : w.cell? ⟨B, 0, none⟩ = some (.slice ta tn tcap) := by rw [cell_of_row w B 0 _ _ _ h]; rfl
  have c1 : w.cell? ⟨B, 1, none⟩ = some (.int .i64 j) := by rw [cell_of_row w B 1 _ _ _ h]; rfl
  clear h
  by_cases hj : tn ≤ j
  · have hj' : ¬ (j : Int) < (tn : Int) := by omega
    rw [if_pos hj]
    go_enter Tryz.func124, Tryz.ntmps124
    go_wp2_with fail
    go_region
    all_goals
      go_wp2_with fail
      go_ret
      exact ⟨rfl, (Below.refl _ _).drew⟩
  · have hj' : (j : Int) < (tn : Int) := by omega
    rw [if_neg hj]
    go_enter Tryz.func124, Tryz.ntmps124
    go_wp2_with fail
    go_region
    all_goals
      go_wp2_with fail
      go_ret
      exact ⟨rfl, (Below.refl _ _).drew⟩

set_option maxHeartbeats 8000000 in
theorem pushT_step (R : Int → World → Prop) (base M n1 bm br B : Nat) (cells : Array Value) (la : Option Addr) (lcap m : Nat) (xs : List Value) (nm : ByteArray) (k : Int) (f n : ByteArray) (va1 : Option Addr) (va2 va3 : Nat) (ta : Option Addr) (tn tcap j : Nat) (W : World)
    (hl : W.heap[M]? = some (.cells cells 44 (0, 0))) (hcell : cells[1]? = some (.slice la m lcap)) (hown : W.ownsRow base 101 5 (.slice la m lcap) m xs) (hold : ∀ g, (Value.slice la m lcap).ownBlock = some g → g < n1) (hM : M < base) (hb1 : base ≤ n1) (hn1 : n1 ≤ W.heap.size)
    (hn : m + 1 ≤ maxLen) (hb : (m + 1) * 80 ≤ 140737488355328) (cm : W.cell? ⟨bm, 0, none⟩ = some (.pointer (some ⟨M, 0, none⟩))) (cr : W.cell? ⟨br, 0, none⟩ = some (.pointer (some ⟨B, 0, none⟩))) (hbm : n1 ≤ bm) (hbr : n1 ≤ br) (hB : n1 ≤ B)
    (hrd : W.heap[B]? = some (.cells #[.slice ta tn tcap, .int .i64 j] 181 (0, 0)))
    (hR : ∀ g cap w w', GrewM base M 1 cells 101 5 (.slice la m lcap) (.slice (some ⟨g, 0, none⟩) (m + 1) cap) (m + 1) (xs ++ [.string nm, .int .i64 k, .string f, .string n, .slice va1 va2 va3]) W w → Below w.heap.size w w' → R (if tn ≤ j then 0 else 4) w') :
    Calls Tryz.prog 123 #[.agg #[.string nm, .int .i64 k, .string f, .string n, .slice va1 va2 va3], .pointer (some ⟨bm, 0, none⟩), .pointer (some ⟨br, 0, none⟩)] W (Ends R) := by
  obtain ⟨i0, hi0, hz0, hz1, hz2⟩ := info_parts fd_info
  have HI0 := veil hi0
  have HZ0 := veil hz0
  have HZ1 := veil hz1
  have HZ2 := veil hz2
  have HL := veil hl
  have HCell := veil hcell
  have HOwn := veil hown
  have HOldR := veil hold
  have HM := veil hM
  have HB1 := veil hb1
  have HN1 := veil hn1
  have HNl := veil hn
  have HBy := veil hb
  have HR := veil hR
  have HRd := veil hrd
  have HCr := veil cr
  have hbmW : bm < W.heap.size := World.block_lt_of_cell? W _ cm
  have hbrW : br < W.heap.size := World.block_lt_of_cell? W _ cr
  have HCm := veil cm
  have hMW : M < W.heap.size := by omega
  have hMm : bm ≠ M := by omega
  have hMr : br ≠ M := by omega
  have hMB : B ≠ M := by omega
  have hBW := heap_lt hrd
  clear hl hcell hown hold hM hn hb hR hrd cr cm hb1 hn1 hi0 hz0 hz1 hz2
  have m0 : (0 : Int) ≤ (m : Int) := Int.natCast_nonneg _
  go_enter Tryz.func123, Tryz.ntmps123
  go_wp2_with fail
  refine Code.wp_mono (Q := Normal fun a w => ∃ g cap, a = { tmps := #[.agg #[.string nm, .int .i64 k, .string f, .string n, .slice va1 va2 va3], .pointer (some ⟨bm, 0, none⟩), .pointer (some ⟨br, 0, none⟩), .pointer (some ⟨W.heap.size, 0, none⟩), .int .i64 0, .pointer (some ⟨M, 0, none⟩), .pointer (some ⟨M, 0, none⟩), .pointer (some ⟨M, 0, none⟩), .pointer (some ⟨M, 1, none⟩), .slice la m lcap, .agg #[.string nm, .int .i64 k, .string f, .string n, .slice va1 va2 va3], .slice (some ⟨W.heap.size + 1, 0, none⟩) 1 1, .slice (some ⟨g, 0, none⟩) (m + 1) cap, .pointer (some ⟨M, 0, none⟩), .pointer (some ⟨M, 1, none⟩), undef, undef], defers := [] } ∧
      GrewM base M 1 cells 101 5 (.slice la m lcap) (.slice (some ⟨g, 0, none⟩) (m + 1) cap) (m + 1) (xs ++ [.string nm, .int .i64 k, .string f, .string n, .slice va1 va2 va3]) W w) ?imp ?reg
  case imp =>
    intro e a w h
    cases e with
    | normal =>
      obtain ⟨g, cap, rfl, hG⟩ := h
      have hrow : ∀ k, n1 ≤ k → some k ≠ (Value.slice la m lcap).ownBlock := fun k hk e => by have := HOldR.out k e.symm; omega
      have HRes := veil (fun w' => HR.out g cap w w' hG)
      have c1 : w.cell? ⟨br, 0, none⟩ = some (.pointer (some ⟨B, 0, none⟩)) := (World.cell?_of_block (hG.rest br hbrW hMr (hrow br hbr))).trans HCr.out
      have HRd1 : Hid (w.heap[B]? = some (.cells #[.slice ta tn tcap, .int .i64 j] 181 (0, 0))) := (hG.rest B hBW hMB (hrow B hB)).trans HRd.out
      clear hG hrow
      go_wp2_with fail
      refine (end_next B ta tn tcap j w HRd1.out).mono ?_
      rintro e w' ⟨rfl, hb⟩
      have HF := veil (HRes.out w' hb)
      clear hb
      generalize (if tn ≤ j then (0 : Int) else 4) = y at *
      go_wp2_with fail
      go_ret
      exact ⟨_, rfl, HF.out⟩
    | _ => exact h.elim
  case reg =>
    have hcM : W.cell? ⟨M, 1, none⟩ = some (.slice la m lcap) := by rw [cell_of_row W M 1 _ _ _ HL.out]; exact HCell.out
    have hcl : (W.alloc (.cells #[.string nm, .int .i64 k, .string f, .string n, .slice va1 va2 va3] 101)).drew.cell? ⟨M, 1, none⟩ = some (.slice la m lcap) := by
      show (W.alloc _).cell? _ = _
      rw [World.cell?_alloc_old _ _ _ (by show M ≠ _; omega)]; exact hcM
    have hcl2 : ((W.alloc (.cells #[.string nm, .int .i64 k, .string f, .string n, .slice va1 va2 va3] 101)).alloc (.cells #[.string nm, .int .i64 k, .string f, .string n, .slice va1 va2 va3] 101)).drew.cell? ⟨M, 1, none⟩ = some (.slice la m lcap) := by
      show ((W.alloc _).alloc _).cell? _ = _
      rw [World.cell?_alloc_old _ _ _ (by show M ≠ _; simp; omega)]
      exact hcl
    have hx1 : (W.alloc (.cells #[.string nm, .int .i64 k, .string f, .string n, .slice va1 va2 va3] 101)).rangeAt W.heap.size 0 [.string nm, .int .i64 k, .string f, .string n, .slice va1 va2 va3] := by
      intro j u hu
      rw [Nat.zero_add, World.cell?_alloc_new]
      simpa using hu
    have hm1 : (W.alloc (.cells #[.string nm, .int .i64 k, .string f, .string n, .slice va1 va2 va3] 101)).cell? ⟨bm, 0, none⟩ = some (.pointer (some ⟨M, 0, none⟩)) := by
      rw [World.cell?_alloc_old _ _ _ (by show bm ≠ _; omega)]; exact HCm.out
    have hm2 : ((W.alloc (.cells #[.string nm, .int .i64 k, .string f, .string n, .slice va1 va2 va3] 101)).alloc (.cells #[.string nm, .int .i64 k, .string f, .string n, .slice va1 va2 va3] 101)).cell? ⟨bm, 0, none⟩ = some (.pointer (some ⟨M, 0, none⟩)) := by
      rw [World.cell?_alloc_old _ _ _ (by show bm ≠ _; simp; omega)]; exact hm1
    have HX1 : Hid ((W.alloc (.cells #[.string nm, .int .i64 k, .string f, .string n, .slice va1 va2 va3] 101)).drew.rangeAt W.heap.size 0 [.string nm, .int .i64 k, .string f, .string n, .slice va1 va2 va3] ∧ (W.alloc (.cells #[.string nm, .int .i64 k, .string f, .string n, .slice va1 va2 va3] 101)).drew.cell? ⟨bm, 0, none⟩ = some (.pointer (some ⟨M, 0, none⟩))) := ⟨(World.rangeAt_drew _ _ _ _).2 hx1, hm1⟩
    have HX2 : Hid (((W.alloc (.cells #[.string nm, .int .i64 k, .string f, .string n, .slice va1 va2 va3] 101)).alloc (.cells #[.string nm, .int .i64 k, .string f, .string n, .slice va1 va2 va3] 101)).drew.rangeAt W.heap.size 0 [.string nm, .int .i64 k, .string f, .string n, .slice va1 va2 va3] ∧ ((W.alloc (.cells #[.string nm, .int .i64 k, .string f, .string n, .slice va1 va2 va3] 101)).alloc (.cells #[.string nm, .int .i64 k, .string f, .string n, .slice va1 va2 va3] 101)).drew.cell? ⟨bm, 0, none⟩ = some (.pointer (some ⟨M, 0, none⟩))) := ⟨(World.rangeAt_drew _ _ _ _).2 (World.rangeAt_alloc hx1 (.cells #[.string nm, .int .i64 k, .string f, .string n, .slice va1 va2 va3] 101)), hm2⟩
    clear hx1 hm1 hm2
    have HNews : Hid (∀ j u, ([.string nm, .int .i64 k, .string f, .string n, .slice va1 va2 va3] : List Value)[j]? = some u → ((W.alloc (.cells #[.string nm, .int .i64 k, .string f, .string n, .slice va1 va2 va3] 101)).alloc (.cells #[.string nm, .int .i64 k, .string f, .string n, .slice va1 va2 va3] 101)).drew.cell? ((⟨W.heap.size + 1, 0, none⟩ : Addr).add j) = some u) := by
      refine World.news_of_block (cs := #[.string nm, .int .i64 k, .string f, .string n, .slice va1 va2 va3]) (t := 101) (fr := (0, 0)) ?_
      have h := heap_alloc_new (W.alloc (.cells #[.string nm, .int .i64 k, .string f, .string n, .slice va1 va2 va3] 101)) (.cells #[.string nm, .int .i64 k, .string f, .string n, .slice va1 va2 va3] 101)
      rw [show (W.alloc (.cells #[.string nm, .int .i64 k, .string f, .string n, .slice va1 va2 va3] 101)).heap.size = W.heap.size + 1 by simp] at h
      exact h
    have HOne : Hid (∀ u ∈ ([.string nm, .int .i64 k, .string f, .string n, .slice va1 va2 va3] : List Value), u.oneCell' = true) := by
      have h : ([.string nm, .int .i64 k, .string f, .string n, .slice va1 va2 va3] : List Value).all (·.oneCell') = true := by simp [Value.oneCell']
      exact fun u hu => List.all_eq_true.1 h u hu
    have HH : Hid (((W.alloc (.cells #[.string nm, .int .i64 k, .string f, .string n, .slice va1 va2 va3] 101)).alloc (.cells #[.string nm, .int .i64 k, .string f, .string n, .slice va1 va2 va3] 101)).drew.heap.size = W.heap.size + 2) := by
      show ((W.alloc _).alloc _).heap.size = _
      simp
    have HBs : Hid (base ≤ ((W.alloc (.cells #[.string nm, .int .i64 k, .string f, .string n, .slice va1 va2 va3] 101)).alloc (.cells #[.string nm, .int .i64 k, .string f, .string n, .slice va1 va2 va3] 101)).drew.heap.size) := by show _ ≤ _; rw [HH.out]; have := HB1.out; have := HN1.out; omega
    have HFarM : Hid (some M ≠ (Value.slice la m lcap).ownBlock) := fun h => by have := ownsRow_in HOwn.out _ h.symm; have := HM.out; omega
    have HFar : Hid (∀ g, ((Value.slice la m lcap).ownBlock = some g ∨ g = W.heap.size + 2) → M ≠ g ∧ W.heap.size ≠ g) := by
      intro g h
      have h1 := HM.out
      rcases h with h | h
      · have := ownsRow_in HOwn.out _ h; omega
      · omega
    have HOld : Hid (∀ k', k' < W.heap.size → ((W.alloc (.cells #[.string nm, .int .i64 k, .string f, .string n, .slice va1 va2 va3] 101)).alloc (.cells #[.string nm, .int .i64 k, .string f, .string n, .slice va1 va2 va3] 101)).drew.heap[k']? = W.heap[k']?) := by
      intro k' hk'
      show ((W.alloc _).alloc _).heap[k']? = _
      rw [heap_alloc_old _ _ (by simp; omega), heap_alloc_old _ _ (by omega)]
    have HC2 : Hid (∀ w1, ((W.alloc (.cells #[.string nm, .int .i64 k, .string f, .string n, .slice va1 va2 va3] 101)).alloc (.cells #[.string nm, .int .i64 k, .string f, .string n, .slice va1 va2 va3] 101)).drew.grownBy w1 (Value.slice la m lcap).ownBlock → w1.cell? ⟨M, 1, none⟩ = some (.slice la m lcap) ∧ w1.frozen? ⟨M, 1, none⟩ = false) := by
      intro w1 hg
      have hb1 : w1.heap[M]? = some (.cells cells 44 (0, 0)) := (hg.block M (by rw [HH.out]; omega) HFarM.out).trans ((HOld.out M hMW).trans HL.out)
      exact ⟨by rw [cell_of_row w1 M 1 _ _ _ hb1]; exact HCell.out, Lib.frozen_of_heap hb1 1⟩
    have HGr : Hid (∀ g' cap' w1, w1.ownsRow base 101 5 (.slice (some ⟨g', 0, none⟩) (m + 1) cap') (m + 1) (xs ++ [.string nm, .int .i64 k, .string f, .string n, .slice va1 va2 va3]) → ((W.alloc (.cells #[.string nm, .int .i64 k, .string f, .string n, .slice va1 va2 va3] 101)).alloc (.cells #[.string nm, .int .i64 k, .string f, .string n, .slice va1 va2 va3] 101)).drew.grownBy w1 (Value.slice la m lcap).ownBlock → ((Value.slice la m lcap).ownBlock = some g' ∨ g' = W.heap.size + 2) → GrewM base M 1 cells 101 5 (.slice la m lcap) (.slice (some ⟨g', 0, none⟩) (m + 1) cap') (m + 1) (xs ++ [.string nm, .int .i64 k, .string f, .string n, .slice va1 va2 va3]) W (w1.setCell ⟨M, 1, none⟩ (.slice (some ⟨g', 0, none⟩) (m + 1) cap'))) := fun g' cap' w1 ho hg hat =>
      grewM_store (W0 := ((W.alloc (.cells #[.string nm, .int .i64 k, .string f, .string n, .slice va1 va2 va3] 101)).alloc (.cells #[.string nm, .int .i64 k, .string f, .string n, .slice va1 va2 va3] 101)).drew) HM.out (Nat.le_trans HB1.out HN1.out) (by rw [HH.out]; omega) rfl rfl rfl HOld.out hg HL.out HFarM.out ho (hat.imp_right (fun h => by omega))
    have HS1 : Hid (∀ w1, ((W.alloc (.cells #[.string nm, .int .i64 k, .string f, .string n, .slice va1 va2 va3] 101)).alloc (.cells #[.string nm, .int .i64 k, .string f, .string n, .slice va1 va2 va3] 101)).drew.grownBy w1 (Value.slice la m lcap).ownBlock → w1.rangeAt W.heap.size 0 [.string nm, .int .i64 k, .string f, .string n, .slice va1 va2 va3] ∧ w1.cell? ⟨bm, 0, none⟩ = some (.pointer (some ⟨M, 0, none⟩))) := by
      intro w1 hg
      refine ⟨fun j u hu => ?_, ?_⟩
      · rw [hg.cell_far _ (by rw [HH.out]; show W.heap.size < _; omega) (fun h => by have := ownsRow_in HOwn.out _ h.symm; have h2 : W.heap.size < W.heap.size := this.2; omega)]
        exact HX2.out.1 j u hu
      · rw [hg.cell_far _ (by rw [HH.out]; show bm < _; omega) (fun h => by have := HOldR.out _ h.symm; have h2 : bm < n1 := this; omega)]
        exact HX2.out.2
    refine wp_region_held_drew (S := fun w' => w'.rangeAt W.heap.size 0 [.string nm, .int .i64 k, .string f, .string n, .slice va1 va2 va3] ∧ w'.cell? ⟨bm, 0, none⟩ = some (.pointer (some ⟨M, 0, none⟩))) (by kernel_rfl) HX1.out (fun hHeld => ?_)
    refine any_take 0 rfl rfl (by kernel_rfl) (by kernel_rfl) (by kernel_rfl) (fun _ _ _ h => h) (v := .pointer (some ⟨M, 0, none⟩)) (Or.inl ⟨by rfl, fun w hSw => by have hSm := hSw.2; clear hSw; go_simp⟩) hHeld ?_
    refine any_take 1 rfl rfl (by kernel_rfl) (by kernel_rfl) (by kernel_rfl) (fun _ _ _ h => h) (v := .pointer (some ⟨M, 0, none⟩)) (Or.inl ⟨by rfl, fun w hSw => by have hSm := hSw.2; clear hSw; go_simp⟩) hHeld ?_
    refine any_take 2 rfl rfl (by kernel_rfl) (by kernel_rfl) (by kernel_rfl) (fun _ _ _ h => h) (v := .pointer (some ⟨M, 0, none⟩)) (Or.inl ⟨by rfl, fun w _ => by go_simp⟩) hHeld ?_
    refine any_take 3 rfl rfl (by kernel_rfl) (by kernel_rfl) (by kernel_rfl) (fun _ _ _ h => h) (v := .pointer (some ⟨M, 1, none⟩)) (Or.inl ⟨by rfl, fun w _ => by go_simp⟩) hHeld ?_
    refine any_take 5 rfl rfl (by kernel_rfl) (by kernel_rfl) (by kernel_rfl) (fun _ _ _ h => h) (yieldsIf_load_mid (by rfl) _ _ rfl _ _ rfl [.string nm, .int .i64 k, .string f, .string n, .slice va1 va2 va3] _ (fun _ h => h.1) Tryz.underlying101 rfl fdT_size) hHeld ?_
    refine any_two 4 6 (by kernel_rfl) rfl rfl rfl rfl (fun K hK => ?_) (fun K hK => ?_)
    · have HK := veil hK
      clear hK
      go_simp
      refine HK.out _ _ HX1.out ?_
      clear HK K
      refine any_one 6 (by kernel_rfl) rfl rfl (fun K hK => ?_)
      have HK := veil hK
      clear hK
      go_simp
      refine HK.out _ _ HX2.out ?_
      clear HK K
      refine any_one 7 (by kernel_rfl) rfl rfl (fun K hK => ?_)
      refine wp_append_lies _ _ _ _ rfl base 101 i0 _ 5 80 Tryz.underlying41 HI0.out HZ0.out HZ1.out HZ2.out rfl (by omega) (.slice la m lcap) m xs rfl (((HOwn.out.alloc _).alloc _).drew) ⟨W.heap.size + 1, 0, none⟩ 1 1 [.string nm, .int .i64 k, .string f, .string n, .slice va1 va2 va3] rfl rfl HNews.out HOne.out (by omega) HNl.out HBy.out HBs.out (W.heap.size + 2) HH.out (fun g cap w1 hown1 hgrow hat hlt => ?_)
      have hS1 := HS1.out w1 hgrow
      refine hK _ _ hS1 ?_
      clear hK K
      obtain ⟨hc2, hf2⟩ := HC2.out w1 hgrow
      have HG := veil (HGr.out g cap w1 hown1 hgrow hat)
      have HF := veil (HFar.out g hat)
      have HSx := veil hS1.1
      have HSm := veil hS1.2
      clear hown1 hgrow
      refine any_take 8 rfl rfl (by kernel_rfl) (by kernel_rfl) (by kernel_rfl) (fun _ _ _ h => h) (v := .pointer (some ⟨M, 0, none⟩)) (Or.inl ⟨by rfl, fun w _ => by go_simp⟩) hS1 ?_
      refine any_take 9 rfl rfl (by kernel_rfl) (by kernel_rfl) (by kernel_rfl) (fun _ _ _ h => h) (v := .pointer (some ⟨M, 1, none⟩)) (Or.inl ⟨by rfl, fun w _ => by go_simp⟩) hS1 ?_
      refine any_one 10 (by kernel_rfl) rfl rfl (fun K hK => ?_)
      have HK := veil hK
      clear hK hS1
      go_simp
      refine HK.out _ _ ⟨fun j u hu => ?_, ?_⟩ (wpAnyH_done (by kernel_rfl) ⟨g, cap, rfl, HG.out⟩ _)
      · rw [World.cell?_setCell_other _ _ _ _ (by intro h; injection h with h _ _; omega)]
        exact HSx.out j u hu
      · rw [World.cell?_setCell_other _ _ _ _ (by intro h; injection h with h _ _; omega)]
        exact HSm.out
    · have HK := veil hK
      clear hK
      go_simp
      refine HK.out _ _ HX2.out ?_
      clear HK K
      refine any_one 4 (by kernel_rfl) rfl rfl (fun K hK => ?_)
      have HK := veil hK
      clear hK
      go_simp
      refine HK.out _ _ HX2.out ?_
      clear HK K
      refine any_one 7 (by kernel_rfl) rfl rfl (fun K hK => ?_)
      refine wp_append_lies _ _ _ _ rfl base 101 i0 _ 5 80 Tryz.underlying41 HI0.out HZ0.out HZ1.out HZ2.out rfl (by omega) (.slice la m lcap) m xs rfl (((HOwn.out.alloc _).alloc _).drew) ⟨W.heap.size + 1, 0, none⟩ 1 1 [.string nm, .int .i64 k, .string f, .string n, .slice va1 va2 va3] rfl rfl HNews.out HOne.out (by omega) HNl.out HBy.out HBs.out (W.heap.size + 2) HH.out (fun g cap w1 hown1 hgrow hat hlt => ?_)
      have hS1 := HS1.out w1 hgrow
      refine hK _ _ hS1 ?_
      clear hK K
      obtain ⟨hc2, hf2⟩ := HC2.out w1 hgrow
      have HG := veil (HGr.out g cap w1 hown1 hgrow hat)
      have HF := veil (HFar.out g hat)
      have HSx := veil hS1.1
      have HSm := veil hS1.2
      clear hown1 hgrow
      refine any_take 8 rfl rfl (by kernel_rfl) (by kernel_rfl) (by kernel_rfl) (fun _ _ _ h => h) (v := .pointer (some ⟨M, 0, none⟩)) (Or.inl ⟨by rfl, fun w _ => by go_simp⟩) hS1 ?_
      refine any_take 9 rfl rfl (by kernel_rfl) (by kernel_rfl) (by kernel_rfl) (fun _ _ _ h => h) (v := .pointer (some ⟨M, 1, none⟩)) (Or.inl ⟨by rfl, fun w _ => by go_simp⟩) hS1 ?_
      refine any_one 10 (by kernel_rfl) rfl rfl (fun K hK => ?_)
      have HK := veil hK
      clear hK hS1
      go_simp
      refine HK.out _ _ ⟨fun j u hu => ?_, ?_⟩ (wpAnyH_done (by kernel_rfl) ⟨g, cap, rfl, HG.out⟩ _)
      · rw [World.cell?_setCell_other _ _ _ _ (by intro h; injection h with h _ _; omega)]
        exact HSx.out j u hu
      · rw [World.cell?_setCell_other _ _ _ _ (by intro h; injection h with h _ _; omega)]
        exact HSm.out

end Go.Proofs.YtagbaimfigljiaaGreatDoor
namespace Go.Proofs.YtagbaimfigljiaaGreatDoor
open Go.RowKit
set_option maxRecDepth 100000

set_option maxHeartbeats 8000000 in
theorem pushF_step (R : Int → World → Prop) (base M n1 bm br B : Nat) (cells : Array Value) (la : Option Addr) (lcap m : Nat) (xs : List Value) (nm vr : ByteArray) (vp1 : Option Addr) (vp2 vp3 : Nat) (k : Int) (f n : ByteArray) (va1 : Option Addr) (va2 va3 : Nat) (k' n' : Int) (f' s' : ByteArray) (ve1 : Option Addr) (ve2 ve3 : Nat) (ta : Option Addr) (tn tcap j : Nat) (W : World)
    (hl : W.heap[M]? = some (.cells cells 44 (0, 0))) (hcell : cells[2]? = some (.slice la m lcap)) (hown : W.ownsRow base 89 12 (.slice la m lcap) m xs) (hold : ∀ g, (Value.slice la m lcap).ownBlock = some g → g < n1) (hM : M < base) (hb1 : base ≤ n1) (hn1 : n1 ≤ W.heap.size)
    (hn : m + 1 ≤ maxLen) (hb : (m + 1) * 192 ≤ 140737488355328) (cm : W.cell? ⟨bm, 0, none⟩ = some (.pointer (some ⟨M, 0, none⟩))) (cr : W.cell? ⟨br, 0, none⟩ = some (.pointer (some ⟨B, 0, none⟩))) (hbm : n1 ≤ bm) (hbr : n1 ≤ br) (hB : n1 ≤ B)
    (hrd : W.heap[B]? = some (.cells #[.slice ta tn tcap, .int .i64 j] 181 (0, 0)))
    (hR : ∀ g cap w w', GrewM base M 2 cells 89 12 (.slice la m lcap) (.slice (some ⟨g, 0, none⟩) (m + 1) cap) (m + 1) (xs ++ [.string nm, .string vr, .slice vp1 vp2 vp3, .int .i64 k, .string f, .string n, .slice va1 va2 va3, .int .i64 k', .int .i64 n', .string f', .string s', .slice ve1 ve2 ve3]) W w → Below w.heap.size w w' → R (if tn ≤ j then 0 else 4) w') :
    Calls Tryz.prog 126 #[.agg #[.string nm, .string vr, .slice vp1 vp2 vp3, .int .i64 k, .string f, .string n, .slice va1 va2 va3, .int .i64 k', .int .i64 n', .string f', .string s', .slice ve1 ve2 ve3], .pointer (some ⟨bm, 0, none⟩), .pointer (some ⟨br, 0, none⟩)] W (Ends R) := by
  obtain ⟨i0, hi0, hz0, hz1, hz2⟩ := info_parts fu_info
  have HI0 := veil hi0
  have HZ0 := veil hz0
  have HZ1 := veil hz1
  have HZ2 := veil hz2
  have HL := veil hl
  have HCell := veil hcell
  have HOwn := veil hown
  have HOldR := veil hold
  have HM := veil hM
  have HB1 := veil hb1
  have HN1 := veil hn1
  have HNl := veil hn
  have HBy := veil hb
  have HR := veil hR
  have HRd := veil hrd
  have HCr := veil cr
  have hbmW : bm < W.heap.size := World.block_lt_of_cell? W _ cm
  have hbrW : br < W.heap.size := World.block_lt_of_cell? W _ cr
  have HCm := veil cm
  have hMW : M < W.heap.size := by omega
  have hMm : bm ≠ M := by omega
  have hMr : br ≠ M := by omega
  have hMB : B ≠ M := by omega
  have hBW := heap_lt hrd
  clear hl hcell hown hold hM hn hb hR hrd cr cm hb1 hn1 hi0 hz0 hz1 hz2
  have m0 : (0 : Int) ≤ (m : Int) := Int.natCast_nonneg _
  go_enter Tryz.func126, Tryz.ntmps126
  go_wp2_with fail
  refine Code.wp_mono (Q := Normal fun a w => ∃ g cap, a = { tmps := #[.agg #[.string nm, .string vr, .slice vp1 vp2 vp3, .int .i64 k, .string f, .string n, .slice va1 va2 va3, .int .i64 k', .int .i64 n', .string f', .string s', .slice ve1 ve2 ve3], .pointer (some ⟨bm, 0, none⟩), .pointer (some ⟨br, 0, none⟩), .pointer (some ⟨W.heap.size, 0, none⟩), .int .i64 0, .pointer (some ⟨M, 0, none⟩), .pointer (some ⟨M, 0, none⟩), .pointer (some ⟨M, 0, none⟩), .pointer (some ⟨M, 2, none⟩), .slice la m lcap, .agg #[.string nm, .string vr, .slice vp1 vp2 vp3, .int .i64 k, .string f, .string n, .slice va1 va2 va3, .int .i64 k', .int .i64 n', .string f', .string s', .slice ve1 ve2 ve3], .slice (some ⟨W.heap.size + 1, 0, none⟩) 1 1, .slice (some ⟨g, 0, none⟩) (m + 1) cap, .pointer (some ⟨M, 0, none⟩), .pointer (some ⟨M, 2, none⟩), undef, undef], defers := [] } ∧
      GrewM base M 2 cells 89 12 (.slice la m lcap) (.slice (some ⟨g, 0, none⟩) (m + 1) cap) (m + 1) (xs ++ [.string nm, .string vr, .slice vp1 vp2 vp3, .int .i64 k, .string f, .string n, .slice va1 va2 va3, .int .i64 k', .int .i64 n', .string f', .string s', .slice ve1 ve2 ve3]) W w) ?imp ?reg
  case imp =>
    intro e a w h
    cases e with
    | normal =>
      obtain ⟨g, cap, rfl, hG⟩ := h
      have hrow : ∀ k, n1 ≤ k → some k ≠ (Value.slice la m lcap).ownBlock := fun k hk e => by have := HOldR.out k e.symm; omega
      have HRes := veil (fun w' => HR.out g cap w w' hG)
      have c1 : w.cell? ⟨br, 0, none⟩ = some (.pointer (some ⟨B, 0, none⟩)) := (World.cell?_of_block (hG.rest br hbrW hMr (hrow br hbr))).trans HCr.out
      have HRd1 : Hid (w.heap[B]? = some (.cells #[.slice ta tn tcap, .int .i64 j] 181 (0, 0))) := (hG.rest B hBW hMB (hrow B hB)).trans HRd.out
      clear hG hrow
      go_wp2_with fail
      refine (end_next B ta tn tcap j w HRd1.out).mono ?_
      rintro e w' ⟨rfl, hb⟩
      have HF := veil (HRes.out w' hb)
      clear hb
      generalize (if tn ≤ j then (0 : Int) else 4) = y at *
      go_wp2_with fail
      go_ret
      exact ⟨_, rfl, HF.out⟩
    | _ => exact h.elim
  case reg =>
    have hcM : W.cell? ⟨M, 2, none⟩ = some (.slice la m lcap) := by rw [cell_of_row W M 2 _ _ _ HL.out]; exact HCell.out
    have hcl : (W.alloc (.cells #[.string nm, .string vr, .slice vp1 vp2 vp3, .int .i64 k, .string f, .string n, .slice va1 va2 va3, .int .i64 k', .int .i64 n', .string f', .string s', .slice ve1 ve2 ve3] 89)).drew.cell? ⟨M, 2, none⟩ = some (.slice la m lcap) := by
      show (W.alloc _).cell? _ = _
      rw [World.cell?_alloc_old _ _ _ (by show M ≠ _; omega)]; exact hcM
    have hcl2 : ((W.alloc (.cells #[.string nm, .string vr, .slice vp1 vp2 vp3, .int .i64 k, .string f, .string n, .slice va1 va2 va3, .int .i64 k', .int .i64 n', .string f', .string s', .slice ve1 ve2 ve3] 89)).alloc (.cells #[.string nm, .string vr, .slice vp1 vp2 vp3, .int .i64 k, .string f, .string n, .slice va1 va2 va3, .int .i64 k', .int .i64 n', .string f', .string s', .slice ve1 ve2 ve3] 89)).drew.cell? ⟨M, 2, none⟩ = some (.slice la m lcap) := by
      show ((W.alloc _).alloc _).cell? _ = _
      rw [World.cell?_alloc_old _ _ _ (by show M ≠ _; simp; omega)]
      exact hcl
    have hx1 : (W.alloc (.cells #[.string nm, .string vr, .slice vp1 vp2 vp3, .int .i64 k, .string f, .string n, .slice va1 va2 va3, .int .i64 k', .int .i64 n', .string f', .string s', .slice ve1 ve2 ve3] 89)).rangeAt W.heap.size 0 [.string nm, .string vr, .slice vp1 vp2 vp3, .int .i64 k, .string f, .string n, .slice va1 va2 va3, .int .i64 k', .int .i64 n', .string f', .string s', .slice ve1 ve2 ve3] := by
      intro j u hu
      rw [Nat.zero_add, World.cell?_alloc_new]
      simpa using hu
    have hm1 : (W.alloc (.cells #[.string nm, .string vr, .slice vp1 vp2 vp3, .int .i64 k, .string f, .string n, .slice va1 va2 va3, .int .i64 k', .int .i64 n', .string f', .string s', .slice ve1 ve2 ve3] 89)).cell? ⟨bm, 0, none⟩ = some (.pointer (some ⟨M, 0, none⟩)) := by
      rw [World.cell?_alloc_old _ _ _ (by show bm ≠ _; omega)]; exact HCm.out
    have hm2 : ((W.alloc (.cells #[.string nm, .string vr, .slice vp1 vp2 vp3, .int .i64 k, .string f, .string n, .slice va1 va2 va3, .int .i64 k', .int .i64 n', .string f', .string s', .slice ve1 ve2 ve3] 89)).alloc (.cells #[.string nm, .string vr, .slice vp1 vp2 vp3, .int .i64 k, .string f, .string n, .slice va1 va2 va3, .int .i64 k', .int .i64 n', .string f', .string s', .slice ve1 ve2 ve3] 89)).cell? ⟨bm, 0, none⟩ = some (.pointer (some ⟨M, 0, none⟩)) := by
      rw [World.cell?_alloc_old _ _ _ (by show bm ≠ _; simp; omega)]; exact hm1
    have HX1 : Hid ((W.alloc (.cells #[.string nm, .string vr, .slice vp1 vp2 vp3, .int .i64 k, .string f, .string n, .slice va1 va2 va3, .int .i64 k', .int .i64 n', .string f', .string s', .slice ve1 ve2 ve3] 89)).drew.rangeAt W.heap.size 0 [.string nm, .string vr, .slice vp1 vp2 vp3, .int .i64 k, .string f, .string n, .slice va1 va2 va3, .int .i64 k', .int .i64 n', .string f', .string s', .slice ve1 ve2 ve3] ∧ (W.alloc (.cells #[.string nm, .string vr, .slice vp1 vp2 vp3, .int .i64 k, .string f, .string n, .slice va1 va2 va3, .int .i64 k', .int .i64 n', .string f', .string s', .slice ve1 ve2 ve3] 89)).drew.cell? ⟨bm, 0, none⟩ = some (.pointer (some ⟨M, 0, none⟩))) := ⟨(World.rangeAt_drew _ _ _ _).2 hx1, hm1⟩
    have HX2 : Hid (((W.alloc (.cells #[.string nm, .string vr, .slice vp1 vp2 vp3, .int .i64 k, .string f, .string n, .slice va1 va2 va3, .int .i64 k', .int .i64 n', .string f', .string s', .slice ve1 ve2 ve3] 89)).alloc (.cells #[.string nm, .string vr, .slice vp1 vp2 vp3, .int .i64 k, .string f, .string n, .slice va1 va2 va3, .int .i64 k', .int .i64 n', .string f', .string s', .slice ve1 ve2 ve3] 89)).drew.rangeAt W.heap.size 0 [.string nm, .string vr, .slice vp1 vp2 vp3, .int .i64 k, .string f, .string n, .slice va1 va2 va3, .int .i64 k', .int .i64 n', .string f', .string s', .slice ve1 ve2 ve3] ∧ ((W.alloc (.cells #[.string nm, .string vr, .slice vp1 vp2 vp3, .int .i64 k, .string f, .string n, .slice va1 va2 va3, .int .i64 k', .int .i64 n', .string f', .string s', .slice ve1 ve2 ve3] 89)).alloc (.cells #[.string nm, .string vr, .slice vp1 vp2 vp3, .int .i64 k, .string f, .string n, .slice va1 va2 va3, .int .i64 k', .int .i64 n', .string f', .string s', .slice ve1 ve2 ve3] 89)).drew.cell? ⟨bm, 0, none⟩ = some (.pointer (some ⟨M, 0, none⟩))) := ⟨(World.rangeAt_drew _ _ _ _).2 (World.rangeAt_alloc hx1 (.cells #[.string nm, .string vr, .slice vp1 vp2 vp3, .int .i64 k, .string f, .string n, .slice va1 va2 va3, .int .i64 k', .int .i64 n', .string f', .string s', .slice ve1 ve2 ve3] 89)), hm2⟩
    clear hx1 hm1 hm2
    have HNews : Hid (∀ j u, ([.string nm, .string vr, .slice vp1 vp2 vp3, .int .i64 k, .string f, .string n, .slice va1 va2 va3, .int .i64 k', .int .i64 n', .string f', .string s', .slice ve1 ve2 ve3] : List Value)[j]? = some u → ((W.alloc (.cells #[.string nm, .string vr, .slice vp1 vp2 vp3, .int .i64 k, .string f, .string n, .slice va1 va2 va3, .int .i64 k', .int .i64 n', .string f', .string s', .slice ve1 ve2 ve3] 89)).alloc (.cells #[.string nm, .string vr, .slice vp1 vp2 vp3, .int .i64 k, .string f, .string n, .slice va1 va2 va3, .int .i64 k', .int .i64 n', .string f', .string s', .slice ve1 ve2 ve3] 89)).drew.cell? ((⟨W.heap.size + 1, 0, none⟩ : Addr).add j) = some u) := by
      refine World.news_of_block (cs := #[.string nm, .string vr, .slice vp1 vp2 vp3, .int .i64 k, .string f, .string n, .slice va1 va2 va3, .int .i64 k', .int .i64 n', .string f', .string s', .slice ve1 ve2 ve3]) (t := 89) (fr := (0, 0)) ?_
      have h := heap_alloc_new (W.alloc (.cells #[.string nm, .string vr, .slice vp1 vp2 vp3, .int .i64 k, .string f, .string n, .slice va1 va2 va3, .int .i64 k', .int .i64 n', .string f', .string s', .slice ve1 ve2 ve3] 89)) (.cells #[.string nm, .string vr, .slice vp1 vp2 vp3, .int .i64 k, .string f, .string n, .slice va1 va2 va3, .int .i64 k', .int .i64 n', .string f', .string s', .slice ve1 ve2 ve3] 89)
      rw [show (W.alloc (.cells #[.string nm, .string vr, .slice vp1 vp2 vp3, .int .i64 k, .string f, .string n, .slice va1 va2 va3, .int .i64 k', .int .i64 n', .string f', .string s', .slice ve1 ve2 ve3] 89)).heap.size = W.heap.size + 1 by simp] at h
      exact h
    have HOne : Hid (∀ u ∈ ([.string nm, .string vr, .slice vp1 vp2 vp3, .int .i64 k, .string f, .string n, .slice va1 va2 va3, .int .i64 k', .int .i64 n', .string f', .string s', .slice ve1 ve2 ve3] : List Value), u.oneCell' = true) := by
      have h : ([.string nm, .string vr, .slice vp1 vp2 vp3, .int .i64 k, .string f, .string n, .slice va1 va2 va3, .int .i64 k', .int .i64 n', .string f', .string s', .slice ve1 ve2 ve3] : List Value).all (·.oneCell') = true := by simp [Value.oneCell']
      exact fun u hu => List.all_eq_true.1 h u hu
    have HH : Hid (((W.alloc (.cells #[.string nm, .string vr, .slice vp1 vp2 vp3, .int .i64 k, .string f, .string n, .slice va1 va2 va3, .int .i64 k', .int .i64 n', .string f', .string s', .slice ve1 ve2 ve3] 89)).alloc (.cells #[.string nm, .string vr, .slice vp1 vp2 vp3, .int .i64 k, .string f, .string n, .slice va1 va2 va3, .int .i64 k', .int .i64 n', .string f', .string s', .slice ve1 ve2 ve3] 89)).drew.heap.size = W.heap.size + 2) := by
      show ((W.alloc _).alloc _).heap.size = _
      simp
    have HBs : Hid (base ≤ ((W.alloc (.cells #[.string nm, .string vr, .slice vp1 vp2 vp3, .int .i64 k, .string f, .string n, .slice va1 va2 va3, .int .i64 k', .int .i64 n', .string f', .string s', .slice ve1 ve2 ve3] 89)).alloc (.cells #[.string nm, .string vr, .slice vp1 vp2 vp3, .int .i64 k, .string f, .string n, .slice va1 va2 va3, .int .i64 k', .int .i64 n', .string f', .string s', .slice ve1 ve2 ve3] 89)).drew.heap.size) := by show _ ≤ _; rw [HH.out]; have := HB1.out; have := HN1.out; omega
    have HFarM : Hid (some M ≠ (Value.slice la m lcap).ownBlock) := fun h => by have := ownsRow_in HOwn.out _ h.symm; have := HM.out; omega
    have HFar : Hid (∀ g, ((Value.slice la m lcap).ownBlock = some g ∨ g = W.heap.size + 2) → M ≠ g ∧ W.heap.size ≠ g) := by
      intro g h
      have h1 := HM.out
      rcases h with h | h
      · have := ownsRow_in HOwn.out _ h; omega
      · omega
    have HOld : Hid (∀ q', q' < W.heap.size → ((W.alloc (.cells #[.string nm, .string vr, .slice vp1 vp2 vp3, .int .i64 k, .string f, .string n, .slice va1 va2 va3, .int .i64 k', .int .i64 n', .string f', .string s', .slice ve1 ve2 ve3] 89)).alloc (.cells #[.string nm, .string vr, .slice vp1 vp2 vp3, .int .i64 k, .string f, .string n, .slice va1 va2 va3, .int .i64 k', .int .i64 n', .string f', .string s', .slice ve1 ve2 ve3] 89)).drew.heap[q']? = W.heap[q']?) := by
      intro q' hk'
      show ((W.alloc _).alloc _).heap[q']? = _
      rw [heap_alloc_old _ _ (by simp; omega), heap_alloc_old _ _ (by omega)]
    have HC2 : Hid (∀ w1, ((W.alloc (.cells #[.string nm, .string vr, .slice vp1 vp2 vp3, .int .i64 k, .string f, .string n, .slice va1 va2 va3, .int .i64 k', .int .i64 n', .string f', .string s', .slice ve1 ve2 ve3] 89)).alloc (.cells #[.string nm, .string vr, .slice vp1 vp2 vp3, .int .i64 k, .string f, .string n, .slice va1 va2 va3, .int .i64 k', .int .i64 n', .string f', .string s', .slice ve1 ve2 ve3] 89)).drew.grownBy w1 (Value.slice la m lcap).ownBlock → w1.cell? ⟨M, 2, none⟩ = some (.slice la m lcap) ∧ w1.frozen? ⟨M, 2, none⟩ = false) := by
      intro w1 hg
      have hb1 : w1.heap[M]? = some (.cells cells 44 (0, 0)) := (hg.block M (by rw [HH.out]; omega) HFarM.out).trans ((HOld.out M hMW).trans HL.out)
      exact ⟨by rw [cell_of_row w1 M 2 _ _ _ hb1]; exact HCell.out, Lib.frozen_of_heap hb1 2⟩
    have HGr : Hid (∀ g' cap' w1, w1.ownsRow base 89 12 (.slice (some ⟨g', 0, none⟩) (m + 1) cap') (m + 1) (xs ++ [.string nm, .string vr, .slice vp1 vp2 vp3, .int .i64 k, .string f, .string n, .slice va1 va2 va3, .int .i64 k', .int .i64 n', .string f', .string s', .slice ve1 ve2 ve3]) → ((W.alloc (.cells #[.string nm, .string vr, .slice vp1 vp2 vp3, .int .i64 k, .string f, .string n, .slice va1 va2 va3, .int .i64 k', .int .i64 n', .string f', .string s', .slice ve1 ve2 ve3] 89)).alloc (.cells #[.string nm, .string vr, .slice vp1 vp2 vp3, .int .i64 k, .string f, .string n, .slice va1 va2 va3, .int .i64 k', .int .i64 n', .string f', .string s', .slice ve1 ve2 ve3] 89)).drew.grownBy w1 (Value.slice la m lcap).ownBlock → ((Value.slice la m lcap).ownBlock = some g' ∨ g' = W.heap.size + 2) → GrewM base M 2 cells 89 12 (.slice la m lcap) (.slice (some ⟨g', 0, none⟩) (m + 1) cap') (m + 1) (xs ++ [.string nm, .string vr, .slice vp1 vp2 vp3, .int .i64 k, .string f, .string n, .slice va1 va2 va3, .int .i64 k', .int .i64 n', .string f', .string s', .slice ve1 ve2 ve3]) W (w1.setCell ⟨M, 2, none⟩ (.slice (some ⟨g', 0, none⟩) (m + 1) cap'))) := fun g' cap' w1 ho hg hat =>
      grewM_store (W0 := ((W.alloc (.cells #[.string nm, .string vr, .slice vp1 vp2 vp3, .int .i64 k, .string f, .string n, .slice va1 va2 va3, .int .i64 k', .int .i64 n', .string f', .string s', .slice ve1 ve2 ve3] 89)).alloc (.cells #[.string nm, .string vr, .slice vp1 vp2 vp3, .int .i64 k, .string f, .string n, .slice va1 va2 va3, .int .i64 k', .int .i64 n', .string f', .string s', .slice ve1 ve2 ve3] 89)).drew) HM.out (Nat.le_trans HB1.out HN1.out) (by rw [HH.out]; omega) rfl rfl rfl HOld.out hg HL.out HFarM.out ho (hat.imp_right (fun h => by omega))
    have HS1 : Hid (∀ w1, ((W.alloc (.cells #[.string nm, .string vr, .slice vp1 vp2 vp3, .int .i64 k, .string f, .string n, .slice va1 va2 va3, .int .i64 k', .int .i64 n', .string f', .string s', .slice ve1 ve2 ve3] 89)).alloc (.cells #[.string nm, .string vr, .slice vp1 vp2 vp3, .int .i64 k, .string f, .string n, .slice va1 va2 va3, .int .i64 k', .int .i64 n', .string f', .string s', .slice ve1 ve2 ve3] 89)).drew.grownBy w1 (Value.slice la m lcap).ownBlock → w1.rangeAt W.heap.size 0 [.string nm, .string vr, .slice vp1 vp2 vp3, .int .i64 k, .string f, .string n, .slice va1 va2 va3, .int .i64 k', .int .i64 n', .string f', .string s', .slice ve1 ve2 ve3] ∧ w1.cell? ⟨bm, 0, none⟩ = some (.pointer (some ⟨M, 0, none⟩))) := by
      intro w1 hg
      refine ⟨fun j u hu => ?_, ?_⟩
      · rw [hg.cell_far _ (by rw [HH.out]; show W.heap.size < _; omega) (fun h => by have := ownsRow_in HOwn.out _ h.symm; have h2 : W.heap.size < W.heap.size := this.2; omega)]
        exact HX2.out.1 j u hu
      · rw [hg.cell_far _ (by rw [HH.out]; show bm < _; omega) (fun h => by have := HOldR.out _ h.symm; have h2 : bm < n1 := this; omega)]
        exact HX2.out.2
    refine wp_region_held_drew (S := fun w' => w'.rangeAt W.heap.size 0 [.string nm, .string vr, .slice vp1 vp2 vp3, .int .i64 k, .string f, .string n, .slice va1 va2 va3, .int .i64 k', .int .i64 n', .string f', .string s', .slice ve1 ve2 ve3] ∧ w'.cell? ⟨bm, 0, none⟩ = some (.pointer (some ⟨M, 0, none⟩))) (by kernel_rfl) HX1.out (fun hHeld => ?_)
    refine any_take 0 rfl rfl (by kernel_rfl) (by kernel_rfl) (by kernel_rfl) (fun _ _ _ h => h) (v := .pointer (some ⟨M, 0, none⟩)) (Or.inl ⟨by rfl, fun w hSw => by have hSm := hSw.2; clear hSw; go_simp⟩) hHeld ?_
    refine any_take 1 rfl rfl (by kernel_rfl) (by kernel_rfl) (by kernel_rfl) (fun _ _ _ h => h) (v := .pointer (some ⟨M, 0, none⟩)) (Or.inl ⟨by rfl, fun w hSw => by have hSm := hSw.2; clear hSw; go_simp⟩) hHeld ?_
    refine any_take 2 rfl rfl (by kernel_rfl) (by kernel_rfl) (by kernel_rfl) (fun _ _ _ h => h) (v := .pointer (some ⟨M, 0, none⟩)) (Or.inl ⟨by rfl, fun w _ => by go_simp⟩) hHeld ?_
    refine any_take 3 rfl rfl (by kernel_rfl) (by kernel_rfl) (by kernel_rfl) (fun _ _ _ h => h) (v := .pointer (some ⟨M, 2, none⟩)) (Or.inl ⟨by rfl, fun w _ => by go_simp⟩) hHeld ?_
    refine any_take 5 rfl rfl (by kernel_rfl) (by kernel_rfl) (by kernel_rfl) (fun _ _ _ h => h) (yieldsIf_load_mid (by rfl) _ _ rfl _ _ rfl [.string nm, .string vr, .slice vp1 vp2 vp3, .int .i64 k, .string f, .string n, .slice va1 va2 va3, .int .i64 k', .int .i64 n', .string f', .string s', .slice ve1 ve2 ve3] _ (fun _ h => h.1) Tryz.underlying89 rfl fuT_size) hHeld ?_
    refine any_two 4 6 (by kernel_rfl) rfl rfl rfl rfl (fun K hK => ?_) (fun K hK => ?_)
    · have HK := veil hK
      clear hK
      go_simp
      refine HK.out _ _ HX1.out ?_
      clear HK K
      refine any_one 6 (by kernel_rfl) rfl rfl (fun K hK => ?_)
      have HK := veil hK
      clear hK
      go_simp
      refine HK.out _ _ HX2.out ?_
      clear HK K
      refine any_one 7 (by kernel_rfl) rfl rfl (fun K hK => ?_)
      refine wp_append_lies _ _ _ _ rfl base 89 i0 _ 12 192 Tryz.underlying42 HI0.out HZ0.out HZ1.out HZ2.out rfl (by omega) (.slice la m lcap) m xs rfl (((HOwn.out.alloc _).alloc _).drew) ⟨W.heap.size + 1, 0, none⟩ 1 1 [.string nm, .string vr, .slice vp1 vp2 vp3, .int .i64 k, .string f, .string n, .slice va1 va2 va3, .int .i64 k', .int .i64 n', .string f', .string s', .slice ve1 ve2 ve3] rfl rfl HNews.out HOne.out (by omega) HNl.out HBy.out HBs.out (W.heap.size + 2) HH.out (fun g cap w1 hown1 hgrow hat hlt => ?_)
      have hS1 := HS1.out w1 hgrow
      refine hK _ _ hS1 ?_
      clear hK K
      obtain ⟨hc2, hf2⟩ := HC2.out w1 hgrow
      have HG := veil (HGr.out g cap w1 hown1 hgrow hat)
      have HF := veil (HFar.out g hat)
      have HSx := veil hS1.1
      have HSm := veil hS1.2
      clear hown1 hgrow
      refine any_take 8 rfl rfl (by kernel_rfl) (by kernel_rfl) (by kernel_rfl) (fun _ _ _ h => h) (v := .pointer (some ⟨M, 0, none⟩)) (Or.inl ⟨by rfl, fun w _ => by go_simp⟩) hS1 ?_
      refine any_take 9 rfl rfl (by kernel_rfl) (by kernel_rfl) (by kernel_rfl) (fun _ _ _ h => h) (v := .pointer (some ⟨M, 2, none⟩)) (Or.inl ⟨by rfl, fun w _ => by go_simp⟩) hS1 ?_
      refine any_one 10 (by kernel_rfl) rfl rfl (fun K hK => ?_)
      have HK := veil hK
      clear hK hS1
      go_simp
      refine HK.out _ _ ⟨fun j u hu => ?_, ?_⟩ (wpAnyH_done (by kernel_rfl) ⟨g, cap, rfl, HG.out⟩ _)
      · rw [World.cell?_setCell_other _ _ _ _ (by intro h; injection h with h _ _; omega)]
        exact HSx.out j u hu
      · rw [World.cell?_setCell_other _ _ _ _ (by intro h; injection h with h _ _; omega)]
        exact HSm.out
    · have HK := veil hK
      clear hK
      go_simp
      refine HK.out _ _ HX2.out ?_
      clear HK K
      refine any_one 4 (by kernel_rfl) rfl rfl (fun K hK => ?_)
      have HK := veil hK
      clear hK
      go_simp
      refine HK.out _ _ HX2.out ?_
      clear HK K
      refine any_one 7 (by kernel_rfl) rfl rfl (fun K hK => ?_)
      refine wp_append_lies _ _ _ _ rfl base 89 i0 _ 12 192 Tryz.underlying42 HI0.out HZ0.out HZ1.out HZ2.out rfl (by omega) (.slice la m lcap) m xs rfl (((HOwn.out.alloc _).alloc _).drew) ⟨W.heap.size + 1, 0, none⟩ 1 1 [.string nm, .string vr, .slice vp1 vp2 vp3, .int .i64 k, .string f, .string n, .slice va1 va2 va3, .int .i64 k', .int .i64 n', .string f', .string s', .slice ve1 ve2 ve3] rfl rfl HNews.out HOne.out (by omega) HNl.out HBy.out HBs.out (W.heap.size + 2) HH.out (fun g cap w1 hown1 hgrow hat hlt => ?_)
      have hS1 := HS1.out w1 hgrow
      refine hK _ _ hS1 ?_
      clear hK K
      obtain ⟨hc2, hf2⟩ := HC2.out w1 hgrow
      have HG := veil (HGr.out g cap w1 hown1 hgrow hat)
      have HF := veil (HFar.out g hat)
      have HSx := veil hS1.1
      have HSm := veil hS1.2
      clear hown1 hgrow
      refine any_take 8 rfl rfl (by kernel_rfl) (by kernel_rfl) (by kernel_rfl) (fun _ _ _ h => h) (v := .pointer (some ⟨M, 0, none⟩)) (Or.inl ⟨by rfl, fun w _ => by go_simp⟩) hS1 ?_
      refine any_take 9 rfl rfl (by kernel_rfl) (by kernel_rfl) (by kernel_rfl) (fun _ _ _ h => h) (v := .pointer (some ⟨M, 2, none⟩)) (Or.inl ⟨by rfl, fun w _ => by go_simp⟩) hS1 ?_
      refine any_one 10 (by kernel_rfl) rfl rfl (fun K hK => ?_)
      have HK := veil hK
      clear hK hS1
      go_simp
      refine HK.out _ _ ⟨fun j u hu => ?_, ?_⟩ (wpAnyH_done (by kernel_rfl) ⟨g, cap, rfl, HG.out⟩ _)
      · rw [World.cell?_setCell_other _ _ _ _ (by intro h; injection h with h _ _; omega)]
        exact HSx.out j u hu
      · rw [World.cell?_setCell_other _ _ _ _ (by intro h; injection h with h _ _; omega)]
        exact HSm.out

end Go.Proofs.YtagbaimfigljiaaGreatDoor
