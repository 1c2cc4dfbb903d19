/- What alias.Types answers. -/
import Derived.Test.YtkdailcadcfepafGreatJAlias28
import Derived.Test.YtkdailcadcfepafGreatJSortKn
namespace Go.Proofs.YtkdailcadcfepafGreat
open Go.RowKit
set_option maxRecDepth 100000

theorem ownsRow_kns {w : World} {B : Nat} {v : Value} {l : List Kn} (h : w.ownsRow B 62 2 v l.length (knCells l)) (hl : l.length ≤ maxLen) (hs : ∀ t ∈ l, t.name.size ≤ maxLen ∧ t.is.size ≤ maxLen) : SlAt (fun b => B ≤ b ∧ b < w.heap.size) (KnAt w) 2 l v := by
  obtain ⟨hx, ⟨hv, hn⟩ | ⟨g, cap, cur, hv, hg, hh, h1, h2, h3, h4⟩⟩ := h
  · subst hv
    exact ⟨none, 0, by rw [hn], ⟨hl, by omega⟩, Or.inl hn⟩
  · subst hv
    refine ⟨_, cap, rfl, ⟨hl, h1⟩, Or.inr ⟨g, 0, rfl, ⟨hg, ?_⟩, RowAt.mk fun i hi => ?_⟩⟩
    · rcases Nat.lt_or_ge g w.heap.size with h | h
      · exact h
      · rw [Array.getElem?_eq_none h] at hh
        cases hh
    · have hc : ∀ j u, (knCells l)[j]? = some u → w.cell? ⟨g, j, none⟩ = some u := fun j u hj => by
        rw [← h4] at hj
        have hj' : j < l.length * 2 := by
          rcases Nat.lt_or_ge j (l.length * 2) with h | h
          · exact h
          · rw [List.getElem?_eq_none (by rw [List.length_take]; omega)] at hj
            cases hj
        rw [List.getElem?_take_of_lt hj'] at hj
        simpa [World.cell?, hh] using hj
      have e0 := flat_at encKn 2 (fun _ => rfl) (by omega) l (i * 2) (by omega)
      have e1 := flat_at encKn 2 (fun _ => rfl) (by omega) l (i * 2 + 1) (by omega)
      rw [show i * 2 / 2 = i by omega, show i * 2 % 2 = 0 by omega] at e0
      rw [show (i * 2 + 1) / 2 = i by omega, show (i * 2 + 1) % 2 = 1 by omega] at e1
      have e2 : l.toArray[i]! = l[i] := by simp [getElem!_pos, hi]
      rw [e2] at e0 e1
      obtain ⟨z1, z2⟩ := hs _ (List.getElem_mem hi)
      exact ⟨⟨by simpa [encKn] using hc _ _ e0, z1⟩, by simpa [encKn] using hc _ _ e1, z2⟩

theorem owns_far {w w' : World} {B : Nat} {e : TypeId} {size : Nat} {u : Value} {n : Nat} {xs : List Value} {row : Option Nat} (h : w.ownsRow B e size u n xs) (hg : w.grownBy w' row) (hne : ∀ j, u.ownBlock = some j → row ≠ some j) : w'.ownsRow B e size u n xs := by
  have hin := ownsRow_in h
  refine ⟨h.1, h.2.imp_right ?_⟩
  rintro ⟨g, cap, cur, rfl, hb, hh, hr⟩
  refine ⟨g, cap, cur, rfl, hb, ?_, hr⟩
  rw [hg.block g (hin g rfl).2 (fun e => hne g rfl e.symm)]
  exact hh

/-- two rows that are owned, apart. -/
def Parted (v u : Value) : Prop := ∀ j, v.ownBlock = some j → u.ownBlock ≠ some j
theorem Parted.symm {v u : Value} (h : Parted v u) : Parted u v := fun j hj hv => h j hv hj
theorem Parted.grow {w : World} {B : Nat} {e : TypeId} {size : Nat} {v u : Value} {n : Nat} {xs : List Value} {g : Nat} {a : Nat} {m c H : Nat} (h : Parted v u) (hv : w.ownsRow B e size v n xs) (hat : u.ownBlock = some g ∨ g = H) (hH : w.heap.size ≤ H) : Parted v (.slice (some ⟨g, a, none⟩) m c) := fun j hj hu => by
  have e : g = j := by simpa [Value.ownBlock] using hu
  subst e
  rcases hat with h1 | h1
  · exact h g hj h1
  · have := (ownsRow_in hv g hj).2; omega

set_option maxRecDepth 100000 in
set_option maxHeartbeats 4000000 in
theorem types_any (S : Nat → Prop) (m : Mo) (l : List Im) (vm vl : Value) (w : World) (hS : ∀ b, S b → b < w.heap.size) (hm : MoIs S w m vm) (hl : SlAt S (ImAt S w) 4 l vl) (hz : ∀ i ∈ l, fcSmall i.face) (hty : ∀ f ∈ m.types, identOk f.name = true ∧ tyFault f.is 1 = 0) (h24 : m.types.length ≤ 24) :
    Calls Tryz.prog 11 #[vm, vl] w fun e w' => ∃ u v, e = .returned (.tuple #[u, v]) ∧ SlAt (fun b => w.heap.size ≤ b ∧ b < w'.heap.size) (KnAt w') 2 (tyIns m l m.types.length) u ∧ SlAt (fun b => w.heap.size ≤ b ∧ b < w'.heap.size) (DgAt w') 2 (tyBads m l m.types.length) v ∧ Below w.heap.size w w' := by
  have hn8 : ∀ f ∈ m.types, f.name.size ≤ 8 := fun f hf => ident_eight (hty f hf).1
  have HC : Hid (∀ W k, k < m.types.length → Below w.heap.size w W → Calls Tryz.prog 23 #[vm, vl, .int .i64 (k : Nat)] W (Tells W (tySol m l k))) := fun W k hk hW =>
    ownType_any S m l k vm vl W (fun b hb => Nat.lt_of_lt_of_le (hS b hb) hW.size) (hm.keep (Keeps.below hW hS)) (imSl_keep (Keeps.below hW hS) hl) hz (fun f hf => (hty f hf).2) (by unfold reachBytes; omega) hk
  obtain ⟨vu, vty, vf, rfl, hu, hts, hf⟩ := hm
  have HT := veil hts
  obtain ⟨u1, u2, u3, rfl⟩ := hu.slice
  obtain ⟨t1, t3, rfl⟩ := hts.is
  obtain ⟨f1, f2, f3, rfl⟩ := hf.slice
  obtain ⟨la, ln, lc, rfl⟩ := hl.slice
  obtain ⟨w0, hwe, hs0, hA, q0, q1, q2⟩ : ∃ w0, w.alloc (.cells #[.slice u1 u2 u3, .slice t1 m.types.length t3, .slice f1 f2 f3] 26) = w0 ∧ w0.heap.size = w.heap.size + 1 ∧ Below w.heap.size w w0 ∧
      w0.cell? ⟨w.heap.size, 0, none⟩ = some (.slice u1 u2 u3) ∧ w0.cell? ⟨w.heap.size, 1, none⟩ = some (.slice t1 m.types.length t3) ∧ w0.cell? ⟨w.heap.size, 2, none⟩ = some (.slice f1 f2 f3) :=
    ⟨_, rfl, by simp, (Below.refl _ _).alloc (Nat.le_refl _) _, by simp [go_sem], by simp [go_sem], by simp [go_sem]⟩
  have HBox : Hid (∀ W, Below w0.heap.size w0 W → (W.cell? ⟨w.heap.size, 0, none⟩ = some (.slice u1 u2 u3) ∧ W.cell? ⟨w.heap.size, 1, none⟩ = some (.slice t1 m.types.length t3) ∧ W.cell? ⟨w.heap.size, 2, none⟩ = some (.slice f1 f2 f3)) ∧ Below w.heap.size w W ∧ w.heap.size + 1 ≤ W.heap.size) := fun W h =>
    ⟨⟨(h.cell (p := ⟨w.heap.size, 0, none⟩) (by show w.heap.size < _; omega)).trans q0, (h.cell (p := ⟨w.heap.size, 1, none⟩) (by show w.heap.size < _; omega)).trans q1, (h.cell (p := ⟨w.heap.size, 2, none⟩) (by show w.heap.size < _; omega)).trans q2⟩, hA.trans (h.mono hA.size), by have := h.size; omega⟩
  have HWe := veil hwe
  have HBads := veil (tyBads_small (m := m) (l := l) hn8)
  have HOks := veil (tyOks_small (l := l) hz hn8)
  have HSz := veil (tySol_size (l := l) hz hn8)
  clear hu hts hf hl hwe hA q0 q1 q2 hz
  obtain ⟨i0, hi, hz0, hz1, hz2⟩ := info_parts infoDg
  obtain ⟨i1, hj, hz3, hz4, hz5⟩ := info_parts kn_info
  go_enter Tryz.func11, Tryz.ntmps11
  go_wp2_with fail
  rw [HWe.out]
  clear HWe
  go_loopw [6, 7, 15] (fun v u i wr => ∃ k : Nat, k ≤ m.types.length ∧ i = .int .i64 k ∧ wr.ownsRow (w.heap.size + 1) 62 2 v (tyOks m l k).length (knCells (tyOks m l k)) ∧ wr.ownsRow (w.heap.size + 1) 57 2 u (tyBads m l k).length (dgCells (tyBads m l k)) ∧ Parted v u ∧ Below w0.heap.size w0 wr) (fun _ _ i _ => m.types.length - (intOf i).toNat)
  case atStart => exact ⟨0, Nat.zero_le _, rfl, World.ownsRow_nil _ _ _ _, World.ownsRow_nil _ _ _ _, (fun j hj => by cases hj), Below.refl _ _⟩
  case round =>
    obtain ⟨k, hk, rfl, hown, hownD, hpar, hbl⟩ := hrel
    obtain ⟨⟨c0, c1, c2⟩, hbw, hsz⟩ := HBox.out _ hbl
    have HOwn := veil hown
    have HOwnD := veil hownD
    have HPar := veil hpar
    have HBl := veil hbl
    have HBw := veil hbw
    clear hown hownD hpar hbl hbw
    by_cases hlt : k < m.types.length
    · have hlt' : (k : Int) < (m.types.length : Int) := by omega
      obtain ⟨_, b, off, rfl, hb, hat⟩ := HT.out.at hlt
      obtain ⟨kd, fo, na, p1, p2, p3, a0, a1, a2, a3, a4, _⟩ := fd_cells hat
      have hbk := hS b hb
      have d0 := (HBw.out.cell (p := ⟨b, off + k * 5, none⟩) hbk).trans a0
      have d1 := (HBw.out.cell (p := ⟨b, off + k * 5 + 1, none⟩) hbk).trans a1
      have d2 := (HBw.out.cell (p := ⟨b, off + k * 5 + 2, none⟩) hbk).trans a2
      have d3 := (HBw.out.cell (p := ⟨b, off + k * 5 + 3, none⟩) hbk).trans a3
      have d4 := (HBw.out.cell (p := ⟨b, off + k * 5 + 4, none⟩) hbk).trans a4
      have HC2 := veil (fun W => HC.out W k hlt)
      have hnm : tyName m k = m.types[k].name := tyName_at hlt
      have HNz : Hid (m.types[k].name.size ≤ 281474976710656) := by
        have := (HSz.out k).2
        rw [hnm] at this
        unfold maxLen at this
        have h8 := ident_eight (hty _ (List.getElem_mem hlt)).1
        show _ ≤ _
        omega
      have HLe := veil (tyOks_le m l k)
      have HLeD := veil (tyBads_le m l k)
      have HOk : Hid ((tySol m l k).2 = 0 → tyOks m l (k + 1) = tyOks m l k ++ [⟨m.types[k].name, (tySol m l k).1⟩] ∧ tyBads m l (k + 1) = tyBads m l k) := fun h => ⟨by rw [← hnm]; exact (tyOks_ok h).1, (tyOks_ok h).2.1⟩
      have HBad : Hid ((tySol m l k).2 ≠ 0 → tyOks m l (k + 1) = tyOks m l k ∧ tyBads m l (k + 1) = tyBads m l k ++ [⟨m.types[k].name, (tySol m l k).2⟩]) := fun h => ⟨(tyOks_bad h).1, by rw [← hnm]; exact (tyOks_bad h).2.1⟩
      clear a0 a1 a2 a3 a4 hat hnm HT HC HSz HBads HOks
      generalize m.types[k].name = nm at *
      generalize tySol m l k = r at *
      obtain ⟨rs, rc⟩ := r
      obtain ⟨W1, HW1, e0, hs1, hb1⟩ : ∃ W1, Hid (wr.alloc (.cells #[.string nm, .int .i64 kd, .string fo, .string na, .slice p1 p2 p3] 65) = W1) ∧ W1.cell? ⟨wr.heap.size, 0, none⟩ = some (.string nm) ∧ W1.heap.size = wr.heap.size + 1 ∧ Below wr.heap.size wr W1 :=
        ⟨_, rfl, by simp [go_sem], by simp, (Below.refl _ _).alloc (Nat.le_refl _) _⟩
      have hbl1 := HBl.out.trans (hb1.mono HBl.out.size)
      obtain ⟨⟨x0, x1, x2⟩, hbw1, hsz1⟩ := HBox.out _ hbl1
      have HBl1 := veil hbl1
      have HBw1 := veil hbw1
      have HB1 := veil hb1
      clear hbl1 hbw1 hb1
      have hBw : w.heap.size < wr.heap.size := by omega
      go_wp2_with fail
      rw [HW1.out]
      refine (HC2.out _ HBw1.out).mono ?_
      rintro e w2 ⟨rfl, hb2⟩
      have hbl2 := HBl1.out.trans (hb2.mono HBl1.out.size)
      have e1 := (hb2.cell (p := ⟨wr.heap.size, 0, none⟩) (by show wr.heap.size < _; omega)).trans e0
      have hrw := HB1.out.trans (hb2.mono HB1.out.size)
      have HOwn2 := veil (ownsRow_later HOwn.out hrw)
      have HOwnD2 := veil (ownsRow_later HOwnD.out hrw)
      have hs2 : wr.heap.size < w2.heap.size := by have := hb2.size; omega
      have HBl2 := veil hbl2
      clear c0 c1 c2 x0 x1 x2 hb2 hbl2 hrw HC2 HOwn HOwnD d0 d1 d2 d3 d4 e0 HB1 HW1 HBl1 HBw1
      have hw2 : w.heap.size + 1 ≤ w2.heap.size := by omega
      by_cases hc : rc = 0
      · subst hc
        have HZ := veil (HOk.out rfl)
        clear HOk HBad
        go_wp2_with fail
        refine (clone_kind nm _ HNz.out).mono ?_
        rintro e w3 ⟨rfl, hb3⟩
        have hbl3 := HBl2.out.trans (hb3.mono HBl2.out.size)
        have hown3 := ownsRow_later HOwn2.out hb3
        have HOwnD3 := veil (ownsRow_later HOwnD2.out hb3)
        have hw3 : w.heap.size + 1 ≤ w3.heap.size := Nat.le_trans hw2 hb3.size
        have HBl3 := veil hbl3
        clear e1 hb3 hbl3 HOwn2 HOwnD2 HBl2
        go_wp2_with (at_builtin; refine wpList_append_lies _ rfl _ _ 29 rfl (w.heap.size + 1) 62 i1 (.agg #[.string ⟨#[]⟩, .string ⟨#[]⟩]) 2 32 Tryz.underlying29 hj hz3 hz4 hz5 rfl (by decide) _ _ _ rfl (hown3.alloc _) ⟨w3.heap.size, 0, none⟩ 1 1 [.string nm, .string rs] rfl rfl ?c1 ?c2 (by decide) ?c3 ?c4 ?c5 (w3.heap.size + 1) ?c6 ?_)
        case c1 => exact cell_two_new _ _ _ _
        case c2 =>
          intro u hu
          simp at hu
          rcases hu with rfl | rfl <;> rfl
        case c3 => have := HLe.out; unfold maxLen; omega
        case c4 => have := HLe.out; omega
        case c5 => simp; omega
        case c6 => simp
        intro g cap w4 hown4 hgrow hat hlt4
        have hrow := ownsRow_at hown3
        have HL4 : Hid (Below w0.heap.size w0 w4) := (HBl3.out.alloc (by omega) (.cells #[.string nm, .string rs] 62)).grown hgrow (by simp; omega) (fun j hj => by have := hrow j hj; omega)
        have HO4 : Hid (w4.ownsRow (w.heap.size + 1) 62 2 (.slice (some ⟨g, 0, none⟩) ((tyOks m l k).length + 1) cap) (tyOks m l (k + 1)).length (knCells (tyOks m l (k + 1)))) := by
          show w4.ownsRow _ _ _ _ _ _
          rw [HZ.out.1, knCells_snoc, List.length_append]
          exact hown4
        have HD4 : Hid (w4.ownsRow (w.heap.size + 1) 57 2 u7 (tyBads m l (k + 1)).length (dgCells (tyBads m l (k + 1)))) := by
          show w4.ownsRow _ _ _ _ _ _
          rw [HZ.out.2]
          exact owns_far (HOwnD3.out.alloc _) hgrow (fun j hj hv => HPar.out j hv hj)
        have HP4 : Hid (Parted (.slice (some ⟨g, 0, none⟩) ((tyOks m l k).length + 1) cap) u7) := (HPar.out.symm.grow (HOwnD3.out.alloc (.cells #[.string nm, .string rs] 62)) hat (by simp)).symm
        clear hown4 hgrow hrow hown3 hat hlt4
        go_wp2_with fail
        exact ⟨⟨k + 1, by omega, by go_num, HO4.out, HD4.out, HP4.out, HL4.out⟩, by simp [intOf]; omega⟩
      · have hc' : (rc != 0) = true := by simp [hc]
        have HZ := veil (HBad.out hc)
        clear HOk HBad hc
        go_wp2_with fail
        refine (diag_any nm rc _ HNz.out).mono ?_
        rintro e w3 ⟨rfl, hb3⟩
        have hbl3 := HBl2.out.trans (hb3.mono HBl2.out.size)
        have HOwn3 := veil (ownsRow_later HOwn2.out hb3)
        have hownD3 := ownsRow_later HOwnD2.out hb3
        have hw3 : w.heap.size + 1 ≤ w3.heap.size := Nat.le_trans hw2 hb3.size
        have HBl3 := veil hbl3
        clear e1 hb3 hbl3 HOwn2 HOwnD2 HBl2
        go_wp2_with (at_builtin; refine wpList_append_lies _ rfl _ _ 33 rfl (w.heap.size + 1) 57 i0 (.agg #[.string ⟨#[]⟩, .int .i64 0]) 2 24 Tryz.underlying33 hi hz0 hz1 hz2 rfl (by decide) _ _ _ rfl (hownD3.alloc _) ⟨w3.heap.size, 0, none⟩ 1 1 [.string nm, .int .i64 rc] rfl rfl ?c1 ?c2 (by decide) ?c3 ?c4 ?c5 (w3.heap.size + 1) ?c6 ?_)
        case c1 => exact cell_two_new _ _ _ _
        case c2 =>
          intro u hu
          simp at hu
          rcases hu with rfl | rfl <;> rfl
        case c3 => have := HLeD.out; unfold maxLen; omega
        case c4 => have := HLeD.out; omega
        case c5 => simp; omega
        case c6 => simp
        intro g cap w4 hown4 hgrow hat hlt4
        have hrow := ownsRow_at hownD3
        have HL4 : Hid (Below w0.heap.size w0 w4) := (HBl3.out.alloc (by omega) (.cells #[.string nm, .int .i64 rc] 57)).grown hgrow (by simp; omega) (fun j hj => by have := hrow j hj; omega)
        have HD4 : Hid (w4.ownsRow (w.heap.size + 1) 57 2 (.slice (some ⟨g, 0, none⟩) ((tyBads m l k).length + 1) cap) (tyBads m l (k + 1)).length (dgCells (tyBads m l (k + 1)))) := by
          show w4.ownsRow _ _ _ _ _ _
          rw [HZ.out.2, dgCells_snoc, List.length_append]
          exact hown4
        have HO4 : Hid (w4.ownsRow (w.heap.size + 1) 62 2 u6 (tyOks m l (k + 1)).length (knCells (tyOks m l (k + 1)))) := by
          show w4.ownsRow _ _ _ _ _ _
          rw [HZ.out.1]
          exact owns_far (HOwn3.out.alloc _) hgrow (fun j hj hv => HPar.out j hj hv)
        have HP4 : Hid (Parted u6 (.slice (some ⟨g, 0, none⟩) ((tyBads m l k).length + 1) cap)) := HPar.out.grow (HOwn3.out.alloc (.cells #[.string nm, .int .i64 rc] 57)) hat (by simp)
        clear hown4 hgrow hrow hownD3 hat hlt4
        go_wp2_with fail
        exact ⟨⟨k + 1, by omega, by go_num, HO4.out, HD4.out, HP4.out, HL4.out⟩, by simp [intOf]; omega⟩
    · have hnl : ¬ (k : Int) < (m.types.length : Int) := by omega
      have hke : k = m.types.length := by omega
      subst hke
      have hl100 : (tyOks m l m.types.length).length ≤ 100 := Nat.le_trans (tyOks_le _ _ _) (by omega)
      have HSort := veil (sort_kn HOwn.out hl100 (HOks.out _) (tyOks_apart (Nat.le_refl _)))
      clear HT HC c0 c1 c2
      go_wp2_with fail
      refine HSort.out.mono ?_
      rintro e w3 ⟨rfl, ⟨l', hperm, hrise, hsl⟩, hgrow⟩
      have hownD3 := owns_far HOwnD.out hgrow (fun j hj hv => HPar.out j hv hj)
      have hbl3 := Below.grown HBl.out hgrow (by omega) (fun j hj => by have := ownsRow_at HOwn.out j hj; omega)
      obtain ⟨_, hbw3, _⟩ := HBox.out _ hbl3
      have hle := tySorted hperm hrise
      rw [hle] at hsl
      have HFin1 := veil hsl
      have HFin2 := veil (ownsRow_dgs hownD3 (Nat.le_trans (tyBads_le _ _ _) (by unfold maxLen; omega)) (HBads.out _))
      have HB3 := veil hbw3
      clear HOwn HOwnD HPar hownD3 hbl3 hbw3 hperm hrise hsl hgrow hle HSort
      go_wp2_with fail
      go_ret2
      exact ⟨_, _, rfl, HFin1.out.imp (fun b hb => ⟨by omega, hb.2⟩) (fun _ _ _ _ _ h => h), HFin2.out.imp (fun b hb => ⟨by omega, hb.2⟩) (fun _ _ _ _ _ h => h), HB3.out⟩

end Go.Proofs.YtkdailcadcfepafGreat
