/- What the reference's UsesOf answers; and that the same things wrong are the same. -/
import Derived.Test.YtkdailcadcfepafJAlias8
import Derived.Deep.RegionHeld3
import Derived.Deep.RegionWith
namespace Go.Proofs.Ytkdailcadcfepaf
open Go.RowKit

/-- what UsesOf's regions keep. -/
def UseS (B b o : Nat) (p q r : Value) (s : ByteArray) (wr W : World) : Prop :=
  Below wr.heap.size wr W ∧ W.cell? ⟨B, 0, none⟩ = some p ∧ W.cell? ⟨B, 1, none⟩ = some q ∧ W.cell? ⟨B, 2, none⟩ = some r ∧ W.cell? ⟨b, o, none⟩ = some (.string s)
theorem UseS.below {B b o : Nat} {p q r : Value} {s : ByteArray} {wr W : World} (h : UseS B b o p q r s wr W) : Below wr.heap.size wr W := h.1
theorem UseS.later {B b o : Nat} {p q r : Value} {s : ByteArray} {wr W W' : World} (h : UseS B b o p q r s wr W) (hb : Below W.heap.size W W') : UseS B b o p q r s wr W' := by
  obtain ⟨h0, h1, h2, h3, h4⟩ := h
  exact ⟨h0.trans (hb.mono h0.size), (hb.cell (World.block_lt_of_cell? _ _ h1)).trans h1, (hb.cell (World.block_lt_of_cell? _ _ h2)).trans h2, (hb.cell (World.block_lt_of_cell? _ _ h3)).trans h3, (hb.cell (World.block_lt_of_cell? _ _ h4)).trans h4⟩

theorem UseS.box {B b o : Nat} {p q r : Value} {s : ByteArray} {wr W : World} {x : Obj} (h : UseS B b o p q r s wr W) : UseS B b o p q r s wr (W.alloc x) := h.later ((Below.refl _ _).alloc (Nat.le_refl _) _)
theorem UseS.sets {B b o g : Nat} {p q r : Value} {s : ByteArray} {wr W : World} {u v : Value} (h : UseS B b o p q r s wr W) (hg : wr.heap.size ≤ g) (hB : B < wr.heap.size) (hb : b < wr.heap.size) : UseS B b o p q r s wr ((W.setCell ⟨g, 0, none⟩ u).setCell ⟨g, 1, none⟩ v) := by
  obtain ⟨h0, h1, h2, h3, h4⟩ := h
  have e : ∀ (c : Addr), c.block ≠ g → ((W.setCell ⟨g, 0, none⟩ u).setCell ⟨g, 1, none⟩ v).cell? c = W.cell? c := fun c hc => by
    rw [World.cell?_setCell_far _ _ _ _ (by show g ≠ c.block; omega), World.cell?_setCell_far _ _ _ _ (by show g ≠ c.block; omega)]
  exact ⟨(h0.setCell hg _).setCell hg _, (e _ (by show B ≠ g; omega)).trans h1, (e _ (by show B ≠ g; omega)).trans h2, (e _ (by show B ≠ g; omega)).trans h3, (e _ (by show b ≠ g; omega)).trans h4⟩

theorem UseS.swap {B b o : Nat} {p q r : Value} {s : ByteArray} {wr W : World} {x y : Obj} (h : UseS B b o p q r s wr (W.alloc x)) (hl : wr.heap.size ≤ W.heap.size) (hB : B < wr.heap.size) (hb : b < wr.heap.size) : UseS B b o p q r s wr (W.alloc y) := by
  obtain ⟨h0, h1, h2, h3, h4⟩ := h
  have e : ∀ c, c < wr.heap.size → (W.alloc y).heap[c]? = (W.alloc x).heap[c]? := fun c hc => by
    rw [heap_alloc_old _ _ (by omega), heap_alloc_old _ _ (by omega)]
  refine ⟨⟨h0.os, h0.tape, h0.output, by simp; omega, fun c hc => (e c hc).trans (h0.block c hc)⟩, ?_, ?_, ?_, ?_⟩
  · rw [World.cell?_of_block (e B hB)]; exact h1
  · rw [World.cell?_of_block (e B hB)]; exact h2
  · rw [World.cell?_of_block (e B hB)]; exact h3
  · rw [World.cell?_of_block (e b hb)]; exact h4

theorem dg_one (s : ByteArray) (c : Int) : ∀ u ∈ ([.string s, .int .i64 c] : List Value), u.oneCell' = true := by
  intro u hu
  simp at hu
  rcases hu with rfl | rfl <;> rfl

theorem uses_small {u : List ByteArray} {l : List Im} (hn : ∀ s ∈ u, s.size ≤ 8) : ∀ t ∈ usesUpto u l u.length, t.wh.size ≤ maxLen := by
  have : ∀ k, k ≤ u.length → ∀ t ∈ usesUpto u l k, t.wh.size ≤ maxLen := by
    intro k
    induction k with
    | zero => intro _ t ht; cases ht
    | succ k ih =>
      intro hk t ht
      rw [usesUpto] at ht
      rcases List.mem_append.1 ht with h | h
      · exact ih (by omega) t h
      · unfold useStep at h
        by_cases hc : useCode u l k = 0
        · rw [if_pos hc] at h; cases h
        · rw [if_neg hc] at h
          rw [List.mem_singleton.1 h]
          show (useName u k).size ≤ _
          rw [useName_at (by omega)]
          have := hn _ (List.getElem_mem (show k < u.length by omega))
          unfold maxLen; omega
  exact this _ (Nat.le_refl _)

theorem box_later {W w' : World} {a b : Value} {t : TypeId} (hb : Below (W.alloc (.cells #[a, b] t)).heap.size (W.alloc (.cells #[a, b] t)) w') : w'.cell? ⟨W.heap.size, 0, none⟩ = some a ∧ w'.cell? ⟨W.heap.size, 1, none⟩ = some b ∧ w'.frozen? ⟨W.heap.size, 0, none⟩ = false ∧ w'.frozen? ⟨W.heap.size, 1, none⟩ = false := by
  have hl : W.heap.size < (W.alloc (.cells #[a, b] t)).heap.size := by simp
  exact ⟨(hb.cell (p := ⟨W.heap.size, 0, none⟩) hl).trans (by simp [go_sem]), (hb.cell (p := ⟨W.heap.size, 1, none⟩) hl).trans (by simp [go_sem]), (hb.frozen (p := ⟨W.heap.size, 0, none⟩) hl).trans (by simp [go_sem]), (hb.frozen (p := ⟨W.heap.size, 1, none⟩) hl).trans (by simp [go_sem])⟩

theorem sameDiags_any (S : Nat → Prop) (d : List Dg) (v u : Value) (w : World) (hS : ∀ b, S b → b < w.heap.size) (hv : SlAt S (DgAt w) 2 d v) (hu : SlAt S (DgAt w) 2 d u) :
    Calls Try.prog 11 #[v, u] w fun e w' => e = .returned (.bool true) ∧ Below w.heap.size w w' := by
  have HV := veil hv
  have HU := veil hu
  have hlen := hv.len
  unfold maxLen at hlen
  obtain ⟨a, cap, rfl⟩ := hv.is
  obtain ⟨a2, cap2, rfl⟩ := hu.is
  clear hv hu
  have hne : ((d.length : Int) != (d.length : Int)) = false := by simp
  go_enter Try.func11, Try.ntmps11
  go_wp2_with fail
  go_loopw [5] (fun i wr => ∃ j : Nat, j ≤ d.length ∧ i = .int .i64 j ∧ Below w.heap.size w wr) (fun i _ => d.length - (intOf i).toNat)
  case atStart => exact ⟨0, Nat.zero_le _, rfl, Below.refl _ _⟩
  case round =>
    obtain ⟨j, hj, rfl, hbl⟩ := hrel
    have HBL := veil hbl
    by_cases hlt : j < d.length
    · have hlt' : (j : Int) < (d.length : Int) := by omega
      obtain ⟨_, b, off, rfl, hb, ⟨a0, _⟩, a1⟩ := HV.out.at hlt
      obtain ⟨_, b2, off2, rfl, hb2, ⟨b0, _⟩, b1⟩ := HU.out.at hlt
      have hbk := hS b hb
      have hbk2 := hS b2 hb2
      have d0 := (hbl.cell (p := ⟨b, off + j * 2, none⟩) hbk).trans a0
      have e0 := (hbl.cell (p := ⟨b2, off2 + j * 2, none⟩) hbk2).trans b0
      have d1 := (hbl.cell (p := ⟨b, off + j * 2 + 1, none⟩) hbk).trans a1
      have e1 := (hbl.cell (p := ⟨b2, off2 + j * 2 + 1, none⟩) hbk2).trans b1
      have HD : Hid (Below w.heap.size w wr.drew) := HBL.out.drew
      clear a0 b0 a1 b1 HV HU hbl
      generalize d[j].wh = x at *
      generalize d[j].code = c at *
      have hx : (x.toList == x.toList) = true := by simp
      have hc : (c == c) = true := by simp
      go_wp2_with fail
      go_region
      all_goals
        go_wp2_with fail
        exact ⟨⟨j + 1, by omega, by go_num, HD.out⟩, by simp [intOf]; omega⟩
    · have hnl : ¬ (j : Int) < (d.length : Int) := by omega
      clear HV HU hbl
      go_wp2_with fail
      go_ret
      exact ⟨rfl, HBL.out⟩

set_option maxHeartbeats 4000000 in
set_option maxRecDepth 100000 in
theorem usesOf_any (S : Nat → Prop) (m : Mo) (l : List Im) (vm v : Value) (w : World) (hS : ∀ b, S b → b < w.heap.size) (hm : MoIs S w m vm) (hv : SlAt S (ImAt S w) 4 l v) (hu0 : imsFault l = 0) (hz : m.uses.length ≤ 24) (hn : ∀ s ∈ m.uses, s.size ≤ 8) :
    Calls Try.prog 10 #[vm, v] w fun e w' => ∃ u, e = .returned u ∧ SlAt (fun b => w.heap.size ≤ b ∧ b < w'.heap.size) (DgAt w') 2 (usesUpto m.uses l m.uses.length) u ∧ Below w.heap.size w w' := by
  obtain ⟨vu, vt, vf, rfl, hu, ht, hf⟩ := hm
  have HU := veil hu
  have hlen := hu.len
  unfold maxLen at hlen
  obtain ⟨u1, u3, rfl⟩ := hu.is
  obtain ⟨t1, t2, t3, rfl⟩ := ht.slice
  obtain ⟨f1, f2, f3, rfl⟩ := hf.slice
  obtain ⟨a, n, cap, rfl⟩ := hv.slice
  have HC : Hid (∀ W s, Below w.heap.size w W → Calls Try.prog 28 #[.agg #[.slice u1 m.uses.length u3, .slice t1 t2 t3, .slice f1 f2 f3], .slice a n cap, .string s] W fun e w' => ∃ a n cap a2 n2 cap2, e = .returned (.tuple #[.agg #[.slice a n cap, .slice a2 n2 cap2], .bool (fromOk m.uses l s)]) ∧ Below W.heap.size W w') := fun W s hW => by
    have hm : MoIs S w m (.agg #[.slice u1 m.uses.length u3, .slice t1 t2 t3, .slice f1 f2 f3]) := ⟨_, _, _, rfl, hu, ht, hf⟩
    refine (fromOf_any S m l s _ _ W (fun b hb => Nat.lt_of_lt_of_le (hS b hb) hW.size) (hm.keep (Keeps.below hW hS)) (imSl_keep (Keeps.below hW hS) hv) hu0).mono ?_
    rintro e w' ⟨a, n, cap, a2, n2, cap2, rfl, _, hb⟩
    exact ⟨a, n, cap, a2, n2, cap2, rfl, hb⟩
  have HCa : Hid (∀ (W : World) (s : ByteArray), Below w.heap.size w (W.alloc (.cells #[.slice none 0 0, .slice none 0 0] 47)).drew → Calls Try.prog 28 #[.agg #[.slice u1 m.uses.length u3, .slice t1 t2 t3, .slice f1 f2 f3], .slice a n cap, .string s] (W.alloc (.cells #[.slice none 0 0, .slice none 0 0] 47)).drew fun e w' => ∃ a n cap a2 n2 cap2, e = .returned (.tuple #[.agg #[.slice a n cap, .slice a2 n2 cap2], .bool (fromOk m.uses l s)]) ∧ Below (W.alloc (.cells #[.slice none 0 0, .slice none 0 0] 47)).drew.heap.size (W.alloc (.cells #[.slice none 0 0, .slice none 0 0] 47)).drew w' ∧ w'.cell? ⟨W.heap.size, 0, none⟩ = some (.slice none 0 0) ∧ w'.cell? ⟨W.heap.size, 1, none⟩ = some (.slice none 0 0) ∧ w'.frozen? ⟨W.heap.size, 0, none⟩ = false ∧ w'.frozen? ⟨W.heap.size, 1, none⟩ = false) := fun W s hW => by
    refine (HC.out _ s hW).mono ?_
    rintro e w' ⟨a, n, cap, a2, n2, cap2, rfl, hb⟩
    exact ⟨a, n, cap, a2, n2, cap2, rfl, hb, box_later (W := W) (t := 47) ⟨hb.os, hb.tape, hb.output, hb.size, hb.block⟩⟩
  obtain ⟨w0, hwe, hs0, hA, q0, q1, q2⟩ : ∃ w0, w.alloc (.cells #[.slice u1 m.uses.length u3, .slice t1 t2 t3, .slice f1 f2 f3] 26) = w0 ∧ w0.heap.size = w.heap.size + 1 ∧ Below w.heap.size w w0 ∧
      w0.cell? ⟨w.heap.size, 0, none⟩ = some (.slice u1 m.uses.length u3) ∧ w0.cell? ⟨w.heap.size, 1, none⟩ = some (.slice t1 t2 t3) ∧ w0.cell? ⟨w.heap.size, 2, none⟩ = some (.slice f1 f2 f3) :=
    ⟨_, rfl, by simp, (Below.refl _ _).alloc (Nat.le_refl _) _, by simp [go_sem], by simp [go_sem], by simp [go_sem]⟩
  have HBox : Hid (∀ W, Below w0.heap.size w0 W → (W.cell? ⟨w.heap.size, 0, none⟩ = some (.slice u1 m.uses.length u3) ∧ W.cell? ⟨w.heap.size, 1, none⟩ = some (.slice t1 t2 t3) ∧ W.cell? ⟨w.heap.size, 2, none⟩ = some (.slice f1 f2 f3)) ∧ Below w.heap.size w W ∧ w.heap.size + 1 ≤ W.heap.size) := fun W h =>
    ⟨⟨(h.cell (p := ⟨w.heap.size, 0, none⟩) (by show w.heap.size < _; omega)).trans q0, (h.cell (p := ⟨w.heap.size, 1, none⟩) (by show w.heap.size < _; omega)).trans q1, (h.cell (p := ⟨w.heap.size, 2, none⟩) (by show w.heap.size < _; omega)).trans q2⟩, hA.trans (h.mono hA.size), by have := h.size; omega⟩
  have HWe := veil hwe
  have HN : Hid (∀ k (hk : k < m.uses.length), (m.uses[k]).size ≤ 8) := fun k hk => hn _ (List.getElem_mem hk)
  have HSz := veil (uses_small (l := l) hn)
  clear hu ht hf hv hwe hA q0 q1 q2 hn hu0
  obtain ⟨i0, hi, hz0, hz1, hz2⟩ := info_parts infoDg
  go_enter Try.func10, Try.ntmps10
  go_wp2_with fail
  rw [HWe.out]
  clear HWe
  go_loopw [5, 6] (fun v i wr => ∃ k : Nat, k ≤ m.uses.length ∧ i = .int .i64 k ∧ wr.ownsRow (w.heap.size + 1) 62 2 v (usesUpto m.uses l k).length (dgCells (usesUpto m.uses l k)) ∧ Below w0.heap.size w0 wr) (fun _ i _ => m.uses.length - (intOf i).toNat)
  case atStart => exact ⟨0, Nat.zero_le _, rfl, World.ownsRow_nil _ _ _ _, Below.refl _ _⟩
  case round =>
    obtain ⟨k, hk, rfl, hown, hbl⟩ := hrel
    obtain ⟨⟨c0, c1, c2⟩, hbw, hsz⟩ := HBox.out _ hbl
    have HOwn := veil hown
    have HBl := veil hbl
    have HBw := veil hbw
    clear hown hbl hbw
    by_cases hlt : k < m.uses.length
    · have hlt' : (k : Int) < (m.uses.length : Int) := by omega
      obtain ⟨cu, cc, hrun, hcut⟩ := cut_str HU.out (k := k) (by omega)
      obtain ⟨_, b, off, rfl, hb, a0, m0⟩ := HU.out.at hlt
      rw [Nat.mul_one] at a0
      have hbk := hS b hb
      have d0 := (HBw.out.cell (p := ⟨b, off + k, none⟩) hbk).trans a0
      have HT : Hid (∀ W s, Below w.heap.size w W → Calls Try.prog 29 #[.slice cu k cc, .string s] W fun e w' => e = .returned (.bool (hasS (m.uses.take k) s)) ∧ Below W.heap.size W w') := fun W s hW =>
        hasText_any S _ s _ W (fun b hb => Nat.lt_of_lt_of_le (hS b hb) hW.size) (strSl_keep (Keeps.below hW hS) hcut)
      have hnk := HN.out k hlt
      have hnm : useName m.uses k = m.uses[k] := useName_at hlt
      have HNm := veil hnm
      have HE : Hid (useCode m.uses l k = if hasS (m.uses.take k) m.uses[k] = true then 4 else if fromOk m.uses l m.uses[k] = true then 0 else 3) := by
        show useCode m.uses l k = _
        unfold useCode
        rw [useName_at hlt]
      have HLe := veil (usesUpto_le m.uses l k)
      have HK0 : Hid (UseS w.heap.size b (off + k) (.slice (some ⟨b, off, none⟩) m.uses.length u3) (.slice t1 t2 t3) (.slice f1 f2 f3) m.uses[k] wr wr.drew) := ⟨(Below.refl _ _).drew, c0, c1, c2, d0⟩
      clear a0 m0 hnm HU
      generalize m.uses[k] = s at *
      have hBw : w.heap.size < wr.heap.size := by omega
      have hbw2 : b < wr.heap.size := by omega
      go_wp2_with fail
      clear c0 c1 c2 d0
      go_region_held3 (fun W => Below wr.heap.size wr W ∧ W.cell? ⟨w.heap.size, 0, none⟩ = some (.slice (some ⟨b, off, none⟩) m.uses.length u3) ∧ W.cell? ⟨w.heap.size, 1, none⟩ = some (.slice t1 t2 t3) ∧ W.cell? ⟨w.heap.size, 2, none⟩ = some (.slice f1 f2 f3) ∧ W.cell? ⟨b, off + k, none⟩ = some (.string s)) (first | exact HK0.out | exact UseS.later (by assumption) (by assumption) | exact UseS.box (by assumption) | exact UseS.swap (by assumption) (by assumption) (by assumption) (by assumption) | exact UseS.sets (by assumption) (by first | exact Nat.le_refl _ | exact (UseS.below (by assumption)).size) (by assumption) (by assumption))
        (first
          | (go_at_call 28; refine (HCa.out _ _ (HBw.out.trans ((UseS.below (by assumption)).mono HBw.out.size))).mono ?_; rintro e w' ⟨x1, x2, x3, y1, y2, y3, rfl, hb', g0, g1, g2, g3⟩; have g4 : w'.cell? ⟨wr.heap.size, 0, none⟩ = some (.slice none 0 0) := g0; have g5 : w'.cell? ⟨wr.heap.size, 1, none⟩ = some (.slice none 0 0) := g1; have g6 : w'.frozen? ⟨wr.heap.size, 0, none⟩ = false := g2; have g7 : w'.frozen? ⟨wr.heap.size, 1, none⟩ = false := g3; clear g0 g1 g2 g3; have hl' : wr.heap.size ≤ w'.heap.size := Nat.le_trans (UseS.below (by assumption)).size hb'.size)
          | (go_at_call 28; refine (HC.out _ _ (HBw.out.trans ((UseS.below (by assumption)).mono HBw.out.size))).mono ?_; rintro e w' ⟨x1, x2, x3, y1, y2, y3, rfl, hb'⟩; have hl' : wr.heap.size ≤ w'.heap.size := Nat.le_trans (UseS.below (by assumption)).size hb'.size))
      all_goals
        rename_i hHeld
        have HK1 := veil (UseS.later (B := w.heap.size) (b := b) (o := off + k) hHeld (Below.refl _ _).drew)
        clear hHeld HC HCa HK0
        go_wp2_with fail
        go_region_held3 (fun W => Below wr.heap.size wr W ∧ W.cell? ⟨w.heap.size, 0, none⟩ = some (.slice (some ⟨b, off, none⟩) m.uses.length u3) ∧ W.cell? ⟨w.heap.size, 1, none⟩ = some (.slice t1 t2 t3) ∧ W.cell? ⟨w.heap.size, 2, none⟩ = some (.slice f1 f2 f3) ∧ W.cell? ⟨b, off + k, none⟩ = some (.string s)) (first | exact HK1.out | exact UseS.later (by assumption) (by assumption))
          (first | (go_at_call 29; refine (HT.out _ _ (HBw.out.trans ((UseS.below (by assumption)).mono HBw.out.size))).mono ?_; rintro e w6 ⟨rfl, hb6⟩))
        all_goals
          rename_i hHeld2
          obtain ⟨hb7, c0, c1, c2, d0⟩ := hHeld2
          have hown7 := ownsRow_later HOwn.out hb7
          have HBl7 := veil (HBl.out.trans (hb7.mono HBl.out.size))
          have hsz7 : w.heap.size + 1 ≤ w6.heap.size := by have := hb7.size; omega
          clear hb7 hb6 HT HK1 hrun
          cases hh : hasS (m.uses.take k) s with
          | true =>
            have hc : useCode m.uses l k = 4 := by rw [HE.out, hh]; exact if_pos rfl
            have HZ := veil (usesUpto_one (u := m.uses) (l := l) (k := k) (by rw [hc]; decide))
            rw [HNm.out, hc] at HZ
            clear hc hh HE HNm
            clear c1 c2
            go_wp2_with (at_builtin; refine wpList_append_own _ rfl _ _ 29 rfl (w.heap.size + 1) 62 i0 (.agg #[.string ⟨#[]⟩, .int .i64 0]) 2 24 Try.underlying29 hi hz0 hz1 hz2 rfl (by decide) _ _ _ rfl (hown7.alloc _) ⟨w6.heap.size, 0, none⟩ 1 1 [.string s, .int .i64 4] rfl rfl (cell_two_new _ _ _ _) (dg_one _ _) (by have := HLe.out; unfold maxLen; omega) (by have := HLe.out; omega) (by simp; omega) ?_)
            intro v' w8 hown8 hgrow _
            have hrow := ownsRow_at hown7
            have HL8 : Hid (Below w0.heap.size w0 w8) := (HBl7.out.alloc (by omega) (.cells #[.string s, .int .i64 4] 62)).grown hgrow (by simp; omega) (fun j hj => by have := hrow j hj; omega)
            have HO8 : Hid (w8.ownsRow (w.heap.size + 1) 62 2 v' (usesUpto m.uses l (k + 1)).length (dgCells (usesUpto m.uses l (k + 1)))) := by
              show w8.ownsRow _ _ _ _ _ _
              rw [HZ.out, dgCells_snoc, List.length_append]
              exact hown8
            clear hown8 hgrow hrow hown7
            go_wp2_with fail
            exact ⟨⟨k + 1, by omega, by go_num, HO8.out, HL8.out⟩, by simp [intOf]; omega⟩
          | false =>
            cases ho : fromOk m.uses l s with
            | true =>
              have hc : useCode m.uses l k = 0 := by rw [HE.out, hh, ho]; rfl
              have HZ := veil (usesUpto_zero (u := m.uses) (l := l) (k := k) hc)
              have HO7 := veil hown7
              clear hc hh ho HE HNm hown7
              go_wp2_with fail
              exact ⟨⟨k + 1, by omega, by go_num, by rw [HZ.out]; exact HO7.out, HBl7.out⟩, by simp [intOf]; omega⟩
            | false =>
              have hc : useCode m.uses l k = 3 := by rw [HE.out, hh, ho]; rfl
              have HZ := veil (usesUpto_one (u := m.uses) (l := l) (k := k) (by rw [hc]; decide))
              rw [HNm.out, hc] at HZ
              clear hc hh ho HE HNm
              clear c1 c2
              go_wp2_with (at_builtin; refine wpList_append_own _ rfl _ _ 29 rfl (w.heap.size + 1) 62 i0 (.agg #[.string ⟨#[]⟩, .int .i64 0]) 2 24 Try.underlying29 hi hz0 hz1 hz2 rfl (by decide) _ _ _ rfl (hown7.alloc _) ⟨w6.heap.size, 0, none⟩ 1 1 [.string s, .int .i64 3] rfl rfl (cell_two_new _ _ _ _) (dg_one _ _) (by have := HLe.out; unfold maxLen; omega) (by have := HLe.out; omega) (by simp; omega) ?_)
              intro v' w8 hown8 hgrow _
              have hrow := ownsRow_at hown7
              have HL8 : Hid (Below w0.heap.size w0 w8) := (HBl7.out.alloc (by omega) (.cells #[.string s, .int .i64 3] 62)).grown hgrow (by simp; omega) (fun j hj => by have := hrow j hj; omega)
              have HO8 : Hid (w8.ownsRow (w.heap.size + 1) 62 2 v' (usesUpto m.uses l (k + 1)).length (dgCells (usesUpto m.uses l (k + 1)))) := by
                show w8.ownsRow _ _ _ _ _ _
                rw [HZ.out, dgCells_snoc, List.length_append]
                exact hown8
              clear hown8 hgrow hrow hown7
              go_wp2_with fail
              exact ⟨⟨k + 1, by omega, by go_num, HO8.out, HL8.out⟩, by simp [intOf]; omega⟩
    · have hnl : ¬ (k : Int) < (m.uses.length : Int) := by omega
      have hke : k = m.uses.length := by omega
      subst hke
      have HFin := veil (ownsRow_dgs HOwn.out (Nat.le_trans (usesUpto_le _ _ _) (by unfold maxLen; omega)) HSz.out)
      clear HOwn HU HC
      go_wp2_with fail
      go_ret
      refine ⟨_, rfl, HFin.out.imp (fun b hb => ⟨by omega, hb.2⟩) (fun _ _ _ _ _ h => h), HBw.out⟩

end Go.Proofs.Ytkdailcadcfepaf
