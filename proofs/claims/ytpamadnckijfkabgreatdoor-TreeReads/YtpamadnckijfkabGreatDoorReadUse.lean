/- What the reader's use does: a name is laid behind those of the module; then the line must end. -/
import Derived.Test.YtpamadnckijfkabGreatDoorPushM2
namespace Go.Proofs.YtpamadnckijfkabGreatDoor
open Go.RowKit
set_option maxRecDepth 100000

theorem st_info : (Tryz.prog.info? 9).map (fun i => (i.zero, i.size, i.bytes)) = some (some (.string ⟨#[]⟩), 1, 16) := by kernel_rfl

theorem rd_form {B : Nat} {l : Toks} {i : Nat} {w : World} (h : RdAt B l i w) : ∃ ta tcap, w.heap[B]? = some (.cells #[.slice ta l.length tcap, .int .i64 i] 78 (0, 0)) := by
  obtain ⟨tv, h1, ⟨_, ⟨rfl, a, cap, rfl⟩ | ⟨b, off, cap, rfl, _⟩⟩, _⟩ := h
  · exact ⟨a, cap, h1⟩
  · exact ⟨_, cap, h1⟩

set_option maxHeartbeats 4000000 in
theorem use_next (R : Int → World → Prop) (base M n1 B : Nat) (cells : Array Value) (la : Option Addr) (lcap m : Nat) (xs : List Value) (l : Toks) (i : Nat) (w : World)
    (hr : RdAt B l i w) (hl : w.heap[M]? = some (.cells cells 26 (0, 0))) (hcell : cells[0]? = some (.slice la m lcap)) (hown : w.ownsRow base 9 1 (.slice la m lcap) m xs) (hold : ∀ g, (Value.slice la m lcap).ownBlock = some g → g < n1) (hM : M < base) (hb1 : base ≤ n1) (hB : n1 ≤ B)
    (hn : m + 1 ≤ maxLen) (hb : (m + 1) * 16 ≤ 140737488355328)
    (hbad : identAt l i = none → ∀ w', Moved B w w' → R 4 w')
    (hok : ∀ t, identAt l i = some t → t.size ≤ maxLen → ∀ g cap w1 w2 w', Moved B w w1 → GrewM base M 0 cells 9 1 (.slice la m lcap) (.slice (some ⟨g, 0, none⟩) (m + 1) cap) (m + 1) (xs ++ [.string t]) w1 w2 → Below w2.heap.size w2 w' → R (if l.length ≤ i + 1 then 0 else 4) w') :
    Calls Tryz.prog 31 #[.pointer (some ⟨B, 0, none⟩), .pointer (some ⟨M, 0, none⟩)] w (Ends R) := by
  obtain ⟨i0, hi0, hz0, hz1, hz2⟩ := info_parts st_info
  have HI0 := veil hi0
  have HZ0 := veil hz0
  have HZ1 := veil hz1
  have HZ2 := veil hz2
  have HL := veil hl
  have HCell := veil hcell
  have HOwn := veil hown
  have HOldR := veil hold
  have HM := veil hM
  have HB1 := veil hb1
  have HNl := veil hn
  have HBy := veil hb
  have HBad := veil hbad
  have HOk := veil hok
  have HH := veil hr
  have hBw := rd_lt hr
  have hMB : B ≠ M := by omega
  clear hl hcell hown hold hn hb hbad hok hr hi0 hz0 hz1 hz2
  go_enter Tryz.func31, Tryz.ntmps31
  go_wp2_with fail
  refine (ident_next B l i w HH.out).mono ?_
  rintro e w1 ⟨hm, ⟨hi, t, i', rfl, hr⟩ | ⟨t, hi, hok, rfl, hr⟩⟩
  · have HB := veil (HBad.out hi w1 hm)
    clear hm hi hr HBad HOk
    go_wp2_with fail
    go_ret
    exact ⟨_, rfl, HB.out⟩
  · have hsz := hm.below.size
    have HRes := veil (fun g cap w2 w' => HOk.out t hi (ident_le hok) g cap w1 w2 w' hm)
    have hl1 : w1.heap[M]? = some (.cells cells 26 (0, 0)) := (hm.below.block M (by omega)).trans HL.out
    have HL1 := veil hl1
    have HOwn1 : Hid (w1.ownsRow base 9 1 (.slice la m lcap) m xs) := by
      refine ⟨HOwn.out.1, HOwn.out.2.imp_right ?_⟩
      rintro ⟨g, cap, cur, e, hb, hg, hr⟩
      exact ⟨g, cap, cur, e, hb, (hm.below.block g (by have := HOldR.out g (by rw [e]; rfl); omega)).trans hg, hr⟩
    obtain ⟨ta, tcap, hrd⟩ := rd_form hr
    have HRd := veil hrd
    have hMW : M < w1.heap.size := by omega
    have hcM : w1.cell? ⟨M, 0, none⟩ = some (.slice la m lcap) := by rw [cell_of_row w1 M 0 _ _ _ hl1]; exact HCell.out
    have HHs : Hid ((w1.alloc (.cells #[.string t] 9)).heap.size = w1.heap.size + 1) := by show _ = _; simp
    have HBs : Hid (base ≤ (w1.alloc (.cells #[.string t] 9)).heap.size) := by show _ ≤ _; rw [HHs.out]; omega
    have HFarM : Hid (some M ≠ (Value.slice la m lcap).ownBlock) := fun h => by have := ownsRow_in HOwn.out _ h.symm; omega
    have HOld : Hid (∀ k', k' < w1.heap.size → (w1.alloc (.cells #[.string t] 9)).heap[k']? = w1.heap[k']?) := fun k' hk' => heap_alloc_old _ _ hk'
    have HNews : Hid (∀ j u, ([.string t] : List Value)[j]? = some u → (w1.alloc (.cells #[.string t] 9)).cell? ((⟨w1.heap.size, 0, none⟩ : Addr).add j) = some u) :=
      World.news_of_block (cs := #[.string t]) (t := 9) (fr := (0, 0)) (heap_alloc_new w1 _)
    have HOne : Hid (∀ u ∈ ([.string t] : List Value), u.oneCell' = true) := by intro u hu; simp at hu; subst hu; rfl
    have HC2 : Hid (∀ w2, (w1.alloc (.cells #[.string t] 9)).grownBy w2 (Value.slice la m lcap).ownBlock → w2.cell? ⟨M, 0, none⟩ = some (.slice la m lcap) ∧ w2.frozen? ⟨M, 0, none⟩ = false) := by
      intro w2 hg
      have hb1 : w2.heap[M]? = some (.cells cells 26 (0, 0)) := (hg.block M (by rw [HHs.out]; omega) HFarM.out).trans ((HOld.out M hMW).trans HL1.out)
      exact ⟨by rw [cell_of_row w2 M 0 _ _ _ hb1]; exact HCell.out, Lib.frozen_of_heap hb1 0⟩
    have HGr : Hid (∀ g' cap' w2, w2.ownsRow base 9 1 (.slice (some ⟨g', 0, none⟩) (m + 1) cap') (m + 1) (xs ++ [.string t]) → (w1.alloc (.cells #[.string t] 9)).grownBy w2 (Value.slice la m lcap).ownBlock → ((Value.slice la m lcap).ownBlock = some g' ∨ g' = w1.heap.size + 1) → GrewM base M 0 cells 9 1 (.slice la m lcap) (.slice (some ⟨g', 0, none⟩) (m + 1) cap') (m + 1) (xs ++ [.string t]) w1 (w2.setCell ⟨M, 0, none⟩ (.slice (some ⟨g', 0, none⟩) (m + 1) cap'))) := fun g' cap' w2 ho hg hat =>
      grewM_store (W0 := w1.alloc (.cells #[.string t] 9)) HM.out (by omega) (by rw [HHs.out]; omega) rfl rfl rfl HOld.out hg HL1.out HFarM.out ho (hat.imp_right (fun h => by omega))
    clear hm hi hr hok hrd hl1 HBad HOk
    go_wp2_with (at_builtin; refine wpList_append_lies _ rfl _ _ 22 rfl base 9 i0 _ 1 16 Tryz.underlying22 HI0.out HZ0.out HZ1.out HZ2.out rfl (by decide) (.slice la m lcap) m xs rfl (HOwn1.out.alloc _) ⟨w1.heap.size, 0, none⟩ 1 1 [.string t] rfl rfl HNews.out HOne.out (by decide) HNl.out HBy.out HBs.out (w1.heap.size + 1) HHs.out (fun g' cap' w2 hown2 hgrow hat hlt => ?_); obtain ⟨hc2, hf2⟩ := HC2.out w2 hgrow; have HG := veil (HGr.out g' cap' w2 hown2 hgrow hat); clear hown2 hgrow hat hlt)
    have HRd2 : Hid ((w2.setCell ⟨M, 0, none⟩ (.slice (some ⟨g', 0, none⟩) (m + 1) cap')).heap[B]? = some (.cells #[.slice ta l.length tcap, .int .i64 ((i + 1 : Nat) : Int)] 78 (0, 0))) :=
      (HG.out.rest B (by omega) hMB (fun e => by have := HOldR.out B e.symm; omega)).trans HRd.out
    have HRes2 := veil (fun w' => HRes.out g' cap' _ w' HG.out)
    clear HG HRes
    generalize w2.setCell ⟨M, 0, none⟩ (.slice (some ⟨g', 0, none⟩) (m + 1) cap') = w3 at *
    refine (end_next B ta l.length tcap (i + 1) w3 HRd2.out).mono ?_
    rintro e w' ⟨rfl, hb⟩
    have HF := veil (HRes2.out w' hb)
    clear hb
    generalize (if l.length ≤ i + 1 then (0 : Int) else 4) = y at *
    go_wp2_with fail
    go_ret
    exact ⟨_, rfl, HF.out⟩

end Go.Proofs.YtpamadnckijfkabGreatDoor
