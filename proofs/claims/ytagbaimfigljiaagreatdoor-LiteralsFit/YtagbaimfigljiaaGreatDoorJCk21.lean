import Derived.Test.YtagbaimfigljiaaGreatDoorJCk20
import Derived.Test.YtagbaimfigljiaaGreatDoorJCk12
import Derived.LoopN
namespace Go.Proofs.YtagbaimfigljiaaGreatDoor
open Go.RowKit
set_option maxRecDepth 100000

theorem owns_far {w w' : World} {B : Nat} {e : TypeId} {size : Nat} {u : Value} {n : Nat} {xs : List Value} {row : Option Nat} (h : w.ownsRow B e size u n xs) (hg : w.grownBy w' row) (hne : ∀ j, u.ownBlock = some j → row ≠ some j) : w'.ownsRow B e size u n xs := by
  have hin := ownsRow_in h
  refine ⟨h.1, h.2.imp_right ?_⟩
  rintro ⟨g, cap, cur, rfl, hb, hh, hr⟩
  refine ⟨g, cap, cur, rfl, hb, ?_, hr⟩
  rw [hg.block g (hin g rfl).2 (fun e => hne g rfl e.symm)]
  exact hh

/-- two rows that are owned, apart. -/
def Parted (v u : Value) : Prop := ∀ j, v.ownBlock = some j → u.ownBlock ≠ some j
theorem Parted.symm {v u : Value} (h : Parted v u) : Parted u v := fun j hj hv => h j hv hj
theorem Parted.grow {w : World} {B : Nat} {e : TypeId} {size : Nat} {v u : Value} {n : Nat} {xs : List Value} {g : Nat} {a : Nat} {m c H : Nat} (h : Parted v u) (hv : w.ownsRow B e size v n xs) (hat : u.ownBlock = some g ∨ g = H) (hH : w.heap.size ≤ H) : Parted v (.slice (some ⟨g, a, none⟩) m c) := fun j hj hu => by
  have e : g = j := by simpa [Value.ownBlock] using hu
  subst e
  rcases hat with h1 | h1
  · exact h g hj h1
  · have := (ownsRow_in hv g hj).2; omega

set_option maxRecDepth 100000 in
set_option maxHeartbeats 4000000 in
theorem types_any (S : Nat → Prop) (m : Mo) (l : List Im) (vm vl : Value) (w : World) (hS : ∀ b, S b → b < w.heap.size) (hm : MoIs S w m vm) (hl : SlAt S (ImAt S w) 4 l vl) (hz : ∀ i ∈ l, fcSmall i.face) (hty : ∀ f ∈ m.types, identOk f.name = true ∧ tyFault f.is 1 = 0) (h24 : m.types.length ≤ 24) :
    Calls Tryz.prog 80 #[vm, vl] w fun e w' => ∃ u v, e = .returned (.tuple #[u, v]) ∧ SlAt (fun b => w.heap.size ≤ b ∧ b < w'.heap.size) (KnAt w') 2 (tyIns m l m.types.length) u ∧ SlAt (fun b => w.heap.size ≤ b ∧ b < w'.heap.size) (DgAt w') 2 (tyBads m l m.types.length) v ∧ Below w.heap.size w w' := by
  have hn8 : ∀ f ∈ m.types, f.name.size ≤ 8 := fun f hf => ident_eight (hty f hf).1
  have HC : Hid (∀ W k, k < m.types.length → Below w.heap.size w W → Calls Tryz.prog 149 #[vm, vl, .int .i64 (k : Nat)] W (Tells W (tySol m l k))) := fun W k hk hW =>
    ownType_any S m l k vm vl W (fun b hb => Nat.lt_of_lt_of_le (hS b hb) hW.size) (hm.keep (Keeps.below hW hS)) (imSl_keep (Keeps.below hW hS) hl) hz (fun f hf => (hty f hf).2) (by unfold reachBytes; omega) hk
  obtain ⟨vu, vty, vf, rfl, hu, hts, hf⟩ := hm
  have HT := veil hts
  obtain ⟨u1, u2, u3, rfl⟩ := hu.slice
  obtain ⟨t1, t3, rfl⟩ := hts.is
  obtain ⟨f1, f2, f3, rfl⟩ := hf.slice
  obtain ⟨la, ln, lc, rfl⟩ := hl.slice
  obtain ⟨w0, hwe, hs0, hA, q0, q1, q2⟩ : ∃ w0, w.alloc (.cells #[.slice u1 u2 u3, .slice t1 m.types.length t3, .slice f1 f2 f3] 44) = w0 ∧ w0.heap.size = w.heap.size + 1 ∧ Below w.heap.size w w0 ∧
      w0.cell? ⟨w.heap.size, 0, none⟩ = some (.slice u1 u2 u3) ∧ w0.cell? ⟨w.heap.size, 1, none⟩ = some (.slice t1 m.types.length t3) ∧ w0.cell? ⟨w.heap.size, 2, none⟩ = some (.slice f1 f2 f3) :=
    ⟨_, rfl, by simp, (Below.refl _ _).alloc (Nat.le_refl _) _, by simp [go_sem], by simp [go_sem], by simp [go_sem]⟩
  have HBox : Hid (∀ W, Below w0.heap.size w0 W → (W.cell? ⟨w.heap.size, 0, none⟩ = some (.slice u1 u2 u3) ∧ W.cell? ⟨w.heap.size, 1, none⟩ = some (.slice t1 m.types.length t3) ∧ W.cell? ⟨w.heap.size, 2, none⟩ = some (.slice f1 f2 f3)) ∧ Below w.heap.size w W ∧ w.heap.size + 1 ≤ W.heap.size) := fun W h =>
    ⟨⟨(h.cell (p := ⟨w.heap.size, 0, none⟩) (by show w.heap.size < _; omega)).trans q0, (h.cell (p := ⟨w.heap.size, 1, none⟩) (by show w.heap.size < _; omega)).trans q1, (h.cell (p := ⟨w.heap.size, 2, none⟩) (by show w.heap.size < _; omega)).trans q2⟩, hA.trans (h.mono hA.size), by have := h.size; omega⟩
  have HWe := veil hwe
  have HBads := veil (tyBads_small (m := m) (l := l) hn8)
  have HOks := veil (tyOks_small (l := l) hz hn8)
  have HSz := veil (tySol_size (l := l) hz hn8)
  clear hu hts hf hl hwe hA q0 q1 q2 hz
  obtain ⟨i0, hi, hz0, hz1, hz2⟩ := info_parts infoDg
  obtain ⟨i1, hj, hz3, hz4, hz5⟩ := info_parts kn_info
  go_enter Tryz.func80, Tryz.ntmps80
  go_wp2_with fail
  rw [HWe.out]
  clear HWe
  go_loopw [6, 7, 15] (fun v u i wr => ∃ k : Nat, k ≤ m.types.length ∧ i = .int .i64 k ∧ wr.ownsRow (w.heap.size + 1) 91 2 v (tyOks m l k).length (knCells (tyOks m l k)) ∧ wr.ownsRow (w.heap.size + 1) 53 2 u (tyBads m l k).length (dgCells (tyBads m l k)) ∧ Parted v u ∧ Below w0.heap.size w0 wr) (fun _ _ i _ => m.types.length - (intOf i).toNat)
  case atStart => exact ⟨0, Nat.zero_le _, rfl, World.ownsRow_nil _ _ _ _, World.ownsRow_nil _ _ _ _, (fun j hj => by cases hj), Below.refl _ _⟩
  case round =>
    obtain ⟨k, hk, rfl, hown, hownD, hpar, hbl⟩ := hrel
    obtain ⟨⟨c0, c1, c2⟩, hbw, hsz⟩ := HBox.out _ hbl
    have HOwn := veil hown
    have HOwnD := veil hownD
    have HPar := veil hpar
    have HBl := veil hbl
    have HBw := veil hbw
    clear hown hownD hpar hbl hbw
    by_cases hlt : k < m.types.length
    · have hlt' : (k : Int) < (m.types.length : Int) := by omega
      obtain ⟨_, b, off, rfl, hb, hat⟩ := HT.out.at hlt
      obtain ⟨kd, fo, na, p1, p2, p3, a0, a1, a2, a3, a4, _⟩ := fd_cells hat
      have hbk := hS b hb
      have d0 := (HBw.out.cell (p := ⟨b, off + k * 5, none⟩) hbk).trans a0
      have d1 := (HBw.out.cell (p := ⟨b, off + k * 5 + 1, none⟩) hbk).trans a1
      have d2 := (HBw.out.cell (p := ⟨b, off + k * 5 + 2, none⟩) hbk).trans a2
      have d3 := (HBw.out.cell (p := ⟨b, off + k * 5 + 3, none⟩) hbk).trans a3
      have d4 := (HBw.out.cell (p := ⟨b, off + k * 5 + 4, none⟩) hbk).trans a4
      have HC2 := veil (fun W => HC.out W k hlt)
      have hnm : tyName m k = m.types[k].name := tyName_at hlt
      have HNz : Hid (m.types[k].name.size ≤ 281474976710656) := by
        have := (HSz.out k).2
        rw [hnm] at this
        unfold maxLen at this
        have h8 := ident_eight (hty _ (List.getElem_mem hlt)).1
        show _ ≤ _
        omega
      have HLe := veil (tyOks_le m l k)
      have HLeD := veil (tyBads_le m l k)
      have HOk : Hid ((tySol m l k).2 = 0 → tyOks m l (k + 1) = tyOks m l k ++ [⟨m.types[k].name, (tySol m l k).1⟩] ∧ tyBads m l (k + 1) = tyBads m l k) := fun h => ⟨by rw [← hnm]; exact (tyOks_ok h).1, (tyOks_ok h).2.1⟩
      have HBad : Hid ((tySol m l k).2 ≠ 0 → tyOks m l (k + 1) = tyOks m l k ∧ tyBads m l (k + 1) = tyBads m l k ++ [⟨m.types[k].name, (tySol m l k).2⟩]) := fun h => ⟨(tyOks_bad h).1, by rw [← hnm]; exact (tyOks_bad h).2.1⟩
      clear a0 a1 a2 a3 a4 hat hnm HT HC HSz HBads HOks
      generalize m.types[k].name = nm at *
      generalize tySol m l k = r at *
      obtain ⟨rs, rc⟩ := r
      obtain ⟨W1, HW1, e0, hs1, hb1⟩ : ∃ W1, Hid (wr.alloc (.cells #[.string nm, .int .i64 kd, .string fo, .string na, .slice p1 p2 p3] 101) = W1) ∧ W1.cell? ⟨wr.heap.size, 0, none⟩ = some (.string nm) ∧ W1.heap.size = wr.heap.size + 1 ∧ Below wr.heap.size wr W1 :=
        ⟨_, rfl, by simp [go_sem], by simp, (Below.refl _ _).alloc (Nat.le_refl _) _⟩
      have hbl1 := HBl.out.trans (hb1.mono HBl.out.size)
      obtain ⟨⟨x0, x1, x2⟩, hbw1, hsz1⟩ := HBox.out _ hbl1
      have HBl1 := veil hbl1
      have HBw1 := veil hbw1
      have HB1 := veil hb1
      clear hbl1 hbw1 hb1
      have hBw : w.heap.size < wr.heap.size := by omega
      go_wp2_with fail
      rw [HW1.out]
      refine (HC2.out _ HBw1.out).mono ?_
      rintro e w2 ⟨rfl, hb2⟩
      have hbl2 := HBl1.out.trans (hb2.mono HBl1.out.size)
      have e1 := (hb2.cell (p := ⟨wr.heap.size, 0, none⟩) (by show wr.heap.size < _; omega)).trans e0
      have hrw := HB1.out.trans (hb2.mono HB1.out.size)
      have HOwn2 := veil (ownsRow_later HOwn.out hrw)
      have HOwnD2 := veil (ownsRow_later HOwnD.out hrw)
      have hs2 : wr.heap.size < w2.heap.size := by have := hb2.size; omega
      have HBl2 := veil hbl2
      clear c0 c1 c2 x0 x1 x2 hb2 hbl2 hrw HC2 HOwn HOwnD d0 d1 d2 d3 d4 e0 HB1 HW1 HBl1 HBw1
      have hw2 : w.heap.size + 1 ≤ w2.heap.size := by omega
      by_cases hc : rc = 0
      · subst hc
        have HZ := veil (HOk.out rfl)
        clear HOk HBad
        go_wp2_with fail
        refine (clone_kind nm _ HNz.out).mono ?_
        rintro e w3 ⟨rfl, hb3⟩
        have hbl3 := HBl2.out.trans (hb3.mono HBl2.out.size)
        have hown3 := ownsRow_later HOwn2.out hb3
        have HOwnD3 := veil (ownsRow_later HOwnD2.out hb3)
        have hw3 : w.heap.size + 1 ≤ w3.heap.size := Nat.le_trans hw2 hb3.size
        have HBl3 := veil hbl3
        clear e1 hb3 hbl3 HOwn2 HOwnD2 HBl2
        go_wp2_with (at_builtin; refine wpList_append_lies _ rfl _ _ 27 rfl (w.heap.size + 1) 91 i1 (.agg #[.string ⟨#[]⟩, .string ⟨#[]⟩]) 2 32 Tryz.underlying27 hj hz3 hz4 hz5 rfl (by decide) _ _ _ rfl (hown3.alloc _) ⟨w3.heap.size, 0, none⟩ 1 1 [.string nm, .string rs] rfl rfl ?c1 ?c2 (by decide) ?c3 ?c4 ?c5 (w3.heap.size + 1) ?c6 ?_)
        case c1 => exact cell_two_new _ _ _ _
        case c2 =>
          intro u hu
          simp at hu
          rcases hu with rfl | rfl <;> rfl
        case c3 => have := HLe.out; unfold maxLen; omega
        case c4 => have := HLe.out; omega
        case c5 => simp; omega
        case c6 => simp
        intro g cap w4 hown4 hgrow hat hlt4
        have hrow := ownsRow_at hown3
        have HL4 : Hid (Below w0.heap.size w0 w4) := (HBl3.out.alloc (by omega) (.cells #[.string nm, .string rs] 91)).grown hgrow (by simp; omega) (fun j hj => by have := hrow j hj; omega)
        have HO4 : Hid (w4.ownsRow (w.heap.size + 1) 91 2 (.slice (some ⟨g, 0, none⟩) ((tyOks m l k).length + 1) cap) (tyOks m l (k + 1)).length (knCells (tyOks m l (k + 1)))) := by
          show w4.ownsRow _ _ _ _ _ _
          rw [HZ.out.1, knCells_snoc, List.length_append]
          exact hown4
        have HD4 : Hid (w4.ownsRow (w.heap.size + 1) 53 2 u7 (tyBads m l (k + 1)).length (dgCells (tyBads m l (k + 1)))) := by
          show w4.ownsRow _ _ _ _ _ _
          rw [HZ.out.2]
          exact owns_far (HOwnD3.out.alloc _) hgrow (fun j hj hv => HPar.out j hv hj)
        have HP4 : Hid (Parted (.slice (some ⟨g, 0, none⟩) ((tyOks m l k).length + 1) cap) u7) := (HPar.out.symm.grow (HOwnD3.out.alloc (.cells #[.string nm, .string rs] 91)) hat (by simp)).symm
        clear hown4 hgrow hrow hown3 hat hlt4
        go_wp2_with fail
        exact ⟨⟨k + 1, by omega, by go_num, HO4.out, HD4.out, HP4.out, HL4.out⟩, by simp [intOf]; omega⟩
      · have hc' : (rc != 0) = true := by simp [hc]
        have HZ := veil (HBad.out hc)
        clear HOk HBad hc
        go_wp2_with fail
        refine (diag_any nm rc _ HNz.out).mono ?_
        rintro e w3 ⟨rfl, hb3⟩
        have hbl3 := HBl2.out.trans (hb3.mono HBl2.out.size)
        have HOwn3 := veil (ownsRow_later HOwn2.out hb3)
        have hownD3 := ownsRow_later HOwnD2.out hb3
        have hw3 : w.heap.size + 1 ≤ w3.heap.size := Nat.le_trans hw2 hb3.size
        have HBl3 := veil hbl3
        clear e1 hb3 hbl3 HOwn2 HOwnD2 HBl2
        go_wp2_with (at_builtin; refine wpList_append_lies _ rfl _ _ 31 rfl (w.heap.size + 1) 53 i0 (.agg #[.string ⟨#[]⟩, .int .i64 0]) 2 24 Tryz.underlying31 hi hz0 hz1 hz2 rfl (by decide) _ _ _ rfl (hownD3.alloc _) ⟨w3.heap.size, 0, none⟩ 1 1 [.string nm, .int .i64 rc] rfl rfl ?c1 ?c2 (by decide) ?c3 ?c4 ?c5 (w3.heap.size + 1) ?c6 ?_)
        case c1 => exact cell_two_new _ _ _ _
        case c2 =>
          intro u hu
          simp at hu
          rcases hu with rfl | rfl <;> rfl
        case c3 => have := HLeD.out; unfold maxLen; omega
        case c4 => have := HLeD.out; omega
        case c5 => simp; omega
        case c6 => simp
        intro g cap w4 hown4 hgrow hat hlt4
        have hrow := ownsRow_at hownD3
        have HL4 : Hid (Below w0.heap.size w0 w4) := (HBl3.out.alloc (by omega) (.cells #[.string nm, .int .i64 rc] 53)).grown hgrow (by simp; omega) (fun j hj => by have := hrow j hj; omega)
        have HD4 : Hid (w4.ownsRow (w.heap.size + 1) 53 2 (.slice (some ⟨g, 0, none⟩) ((tyBads m l k).length + 1) cap) (tyBads m l (k + 1)).length (dgCells (tyBads m l (k + 1)))) := by
          show w4.ownsRow _ _ _ _ _ _
          rw [HZ.out.2, dgCells_snoc, List.length_append]
          exact hown4
        have HO4 : Hid (w4.ownsRow (w.heap.size + 1) 91 2 u6 (tyOks m l (k + 1)).length (knCells (tyOks m l (k + 1)))) := by
          show w4.ownsRow _ _ _ _ _ _
          rw [HZ.out.1]
          exact owns_far (HOwn3.out.alloc _) hgrow (fun j hj hv => HPar.out j hj hv)
        have HP4 : Hid (Parted u6 (.slice (some ⟨g, 0, none⟩) ((tyBads m l k).length + 1) cap)) := HPar.out.grow (HOwn3.out.alloc (.cells #[.string nm, .int .i64 rc] 53)) hat (by simp)
        clear hown4 hgrow hrow hownD3 hat hlt4
        go_wp2_with fail
        exact ⟨⟨k + 1, by omega, by go_num, HO4.out, HD4.out, HP4.out, HL4.out⟩, by simp [intOf]; omega⟩
    · have hnl : ¬ (k : Int) < (m.types.length : Int) := by omega
      have hke : k = m.types.length := by omega
      subst hke
      have hl100 : (tyOks m l m.types.length).length ≤ 100 := Nat.le_trans (tyOks_le _ _ _) (by omega)
      have HSort := veil (sort_kn HOwn.out hl100 (HOks.out _) (tyOks_apart (Nat.le_refl _)))
      clear HT HC c0 c1 c2
      go_wp2_with fail
      refine HSort.out.mono ?_
      rintro e w3 ⟨rfl, ⟨l', hperm, hrise, hsl⟩, hgrow⟩
      have hownD3 := owns_far HOwnD.out hgrow (fun j hj hv => HPar.out j hv hj)
      have hbl3 := Below.grown HBl.out hgrow (by omega) (fun j hj => by have := ownsRow_at HOwn.out j hj; omega)
      obtain ⟨_, hbw3, _⟩ := HBox.out _ hbl3
      have hle := tySorted hperm hrise
      rw [hle] at hsl
      have HFin1 := veil hsl
      have HFin2 := veil (ownsRow_dgs hownD3 (Nat.le_trans (tyBads_le _ _ _) (by unfold maxLen; omega)) (HBads.out _))
      have HB3 := veil hbw3
      clear HOwn HOwnD HPar hownD3 hbl3 hbw3 hperm hrise hsl hgrow hle HSort
      go_wp2_with fail
      go_ret2
      exact ⟨_, _, rfl, HFin1.out.imp (fun b hb => ⟨by omega, hb.2⟩) (fun _ _ _ _ _ h => h), HFin2.out.imp (fun b hb => ⟨by omega, hb.2⟩) (fun _ _ _ _ _ h => h), HB3.out⟩

end Go.Proofs.YtagbaimfigljiaaGreatDoor
namespace Go.Proofs.YtagbaimfigljiaaGreatDoor
open Go.RowKit
set_option maxRecDepth 100000

theorem sl_map {α β : Type} (f : α → β) {S : Nat → Prop} {P : β → Nat → Nat → Prop} {c : Nat} {l : List α} {v : Value} (h : SlAt S (fun x => P (f x)) c l v) : SlAt S P c (l.map f) v := by
  obtain ⟨a, cap, rfl, ⟨h1, h2⟩, h3⟩ := h
  refine ⟨a, cap, by rw [List.length_map], ⟨by rw [List.length_map]; exact h1, by rw [List.length_map]; exact h2⟩, ?_⟩
  rw [List.length_map]
  refine h3.imp_right ?_
  rintro ⟨b, o, rfl, hb, hr⟩
  refine ⟨b, o, rfl, hb, RowAt.mk fun i hi => ?_⟩
  rw [List.getElem_map]
  exact hr.get i (by simpa using hi)

/-- where params lie: in none of the two rows. -/
def FnS (B : Nat) (v u : Value) (W : World) (b : Nat) : Prop := (B ≤ b ∧ b < W.heap.size) ∧ v.ownBlock ≠ some b ∧ u.ownBlock ≠ some b
def syAgg (y : Sy) : Value := .agg #[.string y.1.name, syVal y, .string y.1.result]

theorem fnS_keep {B : Nat} {v u : Value} {W W' : World} {g : Sg} {x : Value} (h : SgIs (FnS B v u W) W g x) (hb : Below W.heap.size W W') : SgIs (FnS B v u W') W' g x :=
  h.keep ⟨fun b hb' => hb.block b hb'.1.2, fun _ hb' => ⟨⟨hb'.1.1, Nat.lt_of_lt_of_le hb'.1.2 hb.size⟩, hb'.2⟩⟩
theorem fnS_right {B : Nat} {v u : Value} {W W' : World} {g : Sg} {x : Value} {k n c H : Nat} (h : SgIs (FnS B v u W) W g x) (hg : W.grownBy W' v.ownBlock) (hat : v.ownBlock = some k ∨ k = H) (hH : W.heap.size ≤ H) : SgIs (FnS B (.slice (some ⟨k, 0, none⟩) n c) u W') W' g x :=
  h.keep ⟨fun b hb => hg.block b hb.1.2 (fun e => hb.2.1 e.symm), fun b hb => ⟨⟨hb.1.1, Nat.lt_of_lt_of_le hb.1.2 hg.size⟩, fun e => by
    have e' : k = b := by simpa [Value.ownBlock] using e
    subst e'
    rcases hat with h1 | h1
    · exact hb.2.1 h1
    · have := hb.1.2; omega, hb.2.2⟩⟩
theorem fnS_wrong {B : Nat} {v u : Value} {W W' : World} {g : Sg} {x : Value} {k n c H : Nat} (h : SgIs (FnS B v u W) W g x) (hg : W.grownBy W' u.ownBlock) (hat : u.ownBlock = some k ∨ k = H) (hH : W.heap.size ≤ H) : SgIs (FnS B v (.slice (some ⟨k, 0, none⟩) n c) W') W' g x :=
  h.keep ⟨fun b hb => hg.block b hb.1.2 (fun e => hb.2.2 e.symm), fun b hb => ⟨⟨hb.1.1, Nat.lt_of_lt_of_le hb.1.2 hg.size⟩, hb.2.1, fun e => by
    have e' : k = b := by simpa [Value.ownBlock] using e
    subst e'
    rcases hat with h1 | h1
    · exact hb.2.2 h1
    · have := hb.1.2; omega⟩⟩

theorem sy_one (n r : ByteArray) (a : Option Addr) (c d : Nat) : ∀ u ∈ ([.string n, .slice a c d, .string r] : List Value), u.oneCell' = true := by
  intro u hu
  simp at hu
  rcases hu with rfl | rfl | rfl <;> rfl
theorem three_new (w : World) (a b c : Value) (t : TypeId) : ∀ j u, ([a, b, c] : List Value)[j]? = some u → (w.alloc (.cells #[a, b, c] t)).cell? ((⟨w.heap.size, 0, none⟩ : Addr).add j) = some u :=
  World.news_of_block (cs := #[a, b, c]) (t := t) (fr := (0, 0)) (heap_alloc_new w _)

/-- the list of a face's functions, out of the row. -/
theorem sy_funcs {S0 S : Nat → Prop} {W : World} {l : List Sy} {v : Value} (h : SlAt S0 (SyAt W) 3 l v) (hS : ∀ b, S0 b → S b) (hp : ∀ y ∈ l, SgIs S W y.1 (syAgg y)) : SlAt S (SgAt S W) 3 (l.map Prod.fst) v := by
  obtain ⟨a, cap, rfl, hlen, h3⟩ := h
  refine sl_map Prod.fst ⟨a, cap, rfl, hlen, h3.imp_right ?_⟩
  rintro ⟨b, o, rfl, hb, hr⟩
  refine ⟨b, o, rfl, hS b hb, RowAt.mk fun i hi => ?_⟩
  obtain ⟨c0, c1, c2⟩ := hr.get i hi
  obtain ⟨vp, e, z1, z2, hsl⟩ := hp _ (List.getElem_mem hi)
  have e' : [Value.string l[i].1.name, syVal l[i], .string l[i].1.result] = [.string l[i].1.name, vp, .string l[i].1.result] := congrArg Array.toList (Value.agg.inj e)
  injection e' with _ e'
  injection e' with e' _
  subst e'
  exact ⟨⟨c0, z1⟩, ⟨_, c1, hsl⟩, c2, z2⟩

theorem apart_map {l : List Sy} (h : Apart Sg.name (l.map Prod.fst)) : Apart syName l := by
  unfold Apart at *
  rw [List.pairwise_map] at h
  exact h
theorem rises_map {l : List Sy} (h : RisesB syName l) : RisesB Sg.name (l.map Prod.fst) := by
  unfold RisesB at *
  rw [List.pairwise_map]
  exact h

set_option maxRecDepth 100000 in
set_option maxHeartbeats 8000000 in
theorem face_any (S : Nat → Prop) (m : Mo) (l : List Im) (vm vl : Value) (w : World) (hS : ∀ b, S b → b < w.heap.size) (hm : MoIs S w m vm) (hl : SlAt S (ImAt S w) 4 l vl) (hz : ∀ i ∈ l, fcSmall i.face) (hty : ∀ f ∈ m.types, identOk f.name = true ∧ tyFault f.is 1 = 0) (h24 : m.types.length ≤ 24) (hf24 : m.funcs.length ≤ 24) (hfu : ∀ f ∈ m.funcs, FuMay f) :
    Calls Tryz.prog 35 #[vm, vl] w fun e w' => ∃ u v d, e = .returned (.tuple #[.agg #[u, v], d]) ∧ FcIs (fun b => w.heap.size ≤ b ∧ b < w'.heap.size) w' ⟨tyIns m l m.types.length, fnIns m l m.funcs.length⟩ (.agg #[u, v]) ∧ SlAt (fun b => w.heap.size ≤ b ∧ b < w'.heap.size) (DgAt w') 2 (fnBads m l m.funcs.length) d ∧ Below w.heap.size w w' := by
  have hn8 : ∀ f ∈ m.funcs, f.name.size ≤ 8 := fun f hf => ident_eight (hfu f hf).1
  have HTs : Hid (∀ W, Below w.heap.size w W → Calls Tryz.prog 80 #[vm, vl] W fun e w' => ∃ u v, e = .returned (.tuple #[u, v]) ∧ SlAt (fun b => W.heap.size ≤ b ∧ b < w'.heap.size) (KnAt w') 2 (tyIns m l m.types.length) u ∧ SlAt (fun b => W.heap.size ≤ b ∧ b < w'.heap.size) (DgAt w') 2 (tyBads m l m.types.length) v ∧ Below W.heap.size W w') := fun W hW =>
    types_any S m l vm vl W (fun b hb => Nat.lt_of_lt_of_le (hS b hb) hW.size) (hm.keep (Keeps.below hW hS)) (imSl_keep (Keeps.below hW hS) hl) hz hty h24
  have HC : Hid (∀ W k, k < m.funcs.length → Below w.heap.size w W → Calls Tryz.prog 81 #[vm, vl, .int .i64 (k : Nat)] W (Signs W (oneSg m l k) (oneCode m l k))) := fun W k hk hW =>
    one_any S m l k vm vl W (fun b hb => Nat.lt_of_lt_of_le (hS b hb) hW.size) (hm.keep (Keeps.below hW hS)) (imSl_keep (Keeps.below hW hS) hl) hz (fun f hf => (hty f hf).2) (by unfold reachBytes; omega) hfu hk
  obtain ⟨vu, vty, vf, rfl, hu, hts, hf⟩ := hm
  have HF := veil hf
  obtain ⟨u1, u2, u3, rfl⟩ := hu.slice
  obtain ⟨t1, t2, t3, rfl⟩ := hts.slice
  obtain ⟨f1, f3, rfl⟩ := hf.is
  obtain ⟨la, ln, lc, rfl⟩ := hl.slice
  obtain ⟨w0, hwe, hs0, hA, q0, q1, q2, y0, y1, z0, z1⟩ : ∃ w0, (w.alloc (.cells #[.slice u1 u2 u3, .slice t1 t2 t3, .slice f1 m.funcs.length f3] 44)).alloc (.cells #[.slice none 0 0, .slice none 0 0] 30) = w0 ∧ w0.heap.size = w.heap.size + 2 ∧ Below w.heap.size w w0 ∧
      w0.cell? ⟨w.heap.size, 0, none⟩ = some (.slice u1 u2 u3) ∧ w0.cell? ⟨w.heap.size, 1, none⟩ = some (.slice t1 t2 t3) ∧ w0.cell? ⟨w.heap.size, 2, none⟩ = some (.slice f1 m.funcs.length f3) ∧
      w0.cell? ⟨w.heap.size + 1, 0, none⟩ = some (.slice none 0 0) ∧ w0.cell? ⟨w.heap.size + 1, 1, none⟩ = some (.slice none 0 0) ∧ w0.frozen? ⟨w.heap.size + 1, 0, none⟩ = false ∧ w0.frozen? ⟨w.heap.size + 1, 1, none⟩ = false :=
    ⟨_, rfl, by simp, ((Below.refl _ _).alloc (Nat.le_refl _) _).alloc (by simp) _, by simp [go_sem], by simp [go_sem], by simp [go_sem], by simp [go_sem], by simp [go_sem], by simp [go_sem], by simp [go_sem]⟩
  have HBox : Hid (∀ W, Below w0.heap.size w0 W → (W.cell? ⟨w.heap.size, 0, none⟩ = some (.slice u1 u2 u3) ∧ W.cell? ⟨w.heap.size, 1, none⟩ = some (.slice t1 t2 t3) ∧ W.cell? ⟨w.heap.size, 2, none⟩ = some (.slice f1 m.funcs.length f3)) ∧ Below w.heap.size w W ∧ (W.cell? ⟨w.heap.size + 1, 0, none⟩ = some (.slice none 0 0) ∧ W.cell? ⟨w.heap.size + 1, 1, none⟩ = some (.slice none 0 0) ∧ W.frozen? ⟨w.heap.size + 1, 0, none⟩ = false ∧ W.frozen? ⟨w.heap.size + 1, 1, none⟩ = false)) := fun W h => by
    have l0 : w.heap.size < w0.heap.size := by omega
    have l1 : w.heap.size + 1 < w0.heap.size := by omega
    exact ⟨⟨(h.cell (p := ⟨w.heap.size, 0, none⟩) l0).trans q0, (h.cell (p := ⟨w.heap.size, 1, none⟩) l0).trans q1, (h.cell (p := ⟨w.heap.size, 2, none⟩) l0).trans q2⟩, hA.trans (h.mono hA.size), (h.cell (p := ⟨w.heap.size + 1, 0, none⟩) l1).trans y0, (h.cell (p := ⟨w.heap.size + 1, 1, none⟩) l1).trans y1, (h.frozen (p := ⟨w.heap.size + 1, 0, none⟩) l1).trans z0, (h.frozen (p := ⟨w.heap.size + 1, 1, none⟩) l1).trans z1⟩
  have HA := veil hA
  have HWe := veil hwe
  have HBads := veil (fnBads_small (m := m) (l := l) hn8)
  have HFu : Hid (∀ k (hk : k < m.funcs.length), (m.funcs[k]).name.size ≤ 281474976710656) := fun k hk => by have := hn8 _ (List.getElem_mem hk); omega
  clear hu hts hf hl hwe hA q0 q1 q2 y0 y1 z0 z1 hz hty hfu hn8
  obtain ⟨i0, hi, hz0, hz1, hz2⟩ := info_parts infoDg
  obtain ⟨i1, hj, hz3, hz4, hz5⟩ := info_parts sg_info
  go_enter Tryz.func35, Tryz.ntmps35
  go_wp2_with fail
  rw [HWe.out]
  clear HWe
  refine (HTs.out _ HA.out).mono ?_
  rintro e w1 ⟨tu, tv, rfl, hkn, _, hb1⟩
  obtain ⟨ta, tn, tc, rfl⟩ := hkn.slice
  have HKn := veil hkn
  have HB1 := veil hb1
  have hsz1 := hb1.size
  obtain ⟨⟨c0, c1, c2⟩, _, _⟩ := HBox.out w1 hb1
  clear hkn hb1 HTs
  go_wp2_with fail
  go_loopw [8, 9, 23] (fun v u i wr => ∃ (k : Nat) (ys : List Sy), k ≤ m.funcs.length ∧ i = .int .i64 k ∧ ys.map Prod.fst = fnOks m l k ∧ wr.ownsRow w1.heap.size 65 3 v ys.length (syCells ys) ∧ (∀ y ∈ ys, SgIs (FnS w1.heap.size v u wr) wr y.1 (syAgg y)) ∧ wr.ownsRow w1.heap.size 53 2 u (fnBads m l k).length (dgCells (fnBads m l k)) ∧ Parted v u ∧ Below w1.heap.size w1 wr) (fun _ _ i _ => m.funcs.length - (intOf i).toNat)
  case atStart => exact ⟨0, [], Nat.zero_le _, rfl, rfl, World.ownsRow_nil _ _ _ _, (fun y hy => by cases hy), World.ownsRow_nil _ _ _ _, (fun j hj => by cases hj), Below.refl _ _⟩
  case round =>
    clear c0 c1 c2
    obtain ⟨k, ys, hk, rfl, hys, hown, hall, hownD, hpar, hbl⟩ := hrel
    obtain ⟨⟨c0, c1, c2⟩, hbw, g0, g1, g2, g3⟩ := HBox.out wr (HB1.out.trans (hbl.mono hsz1))
    have hyl : ys.length ≤ 24 := by
      have := fnOks_le m l k
      rw [← hys, List.length_map] at this
      omega
    have HYs := veil hys
    have HOwn := veil hown
    have HAll := veil hall
    have HOwnD := veil hownD
    have HPar := veil hpar
    have HBl := veil hbl
    have HBw := veil hbw
    have hszr := hbl.size
    clear hys hown hall hownD hpar hbl hbw
    by_cases hlt : k < m.funcs.length
    · have hlt' : (k : Int) < (m.funcs.length : Int) := by omega
      obtain ⟨_, b, off, rfl, hb, hat⟩ := HF.out.at hlt
      obtain ⟨vp1, vp2, vp3, kd, fo, na, p1, p2, p3, ke, ne, fe, se, ve1, ve2, ve3, a0, a1, a2, a3, a4, a5, a6, a7, a8, a9, a10, a11, _⟩ := fu_cells hat
      have hbk := hS b hb
      have d0 := (HBw.out.cell (p := ⟨b, off + k * 12, none⟩) hbk).trans a0
      have d1 := (HBw.out.cell (p := ⟨b, off + k * 12 + 1, none⟩) hbk).trans a1
      have d2 := (HBw.out.cell (p := ⟨b, off + k * 12 + 2, none⟩) hbk).trans a2
      have d3 := (HBw.out.cell (p := ⟨b, off + k * 12 + 3, none⟩) hbk).trans a3
      have d4 := (HBw.out.cell (p := ⟨b, off + k * 12 + 4, none⟩) hbk).trans a4
      have d5 := (HBw.out.cell (p := ⟨b, off + k * 12 + 5, none⟩) hbk).trans a5
      have d6 := (HBw.out.cell (p := ⟨b, off + k * 12 + 6, none⟩) hbk).trans a6
      have d7 := (HBw.out.cell (p := ⟨b, off + k * 12 + 7, none⟩) hbk).trans a7
      have d8 := (HBw.out.cell (p := ⟨b, off + k * 12 + 8, none⟩) hbk).trans a8
      have d9 := (HBw.out.cell (p := ⟨b, off + k * 12 + 9, none⟩) hbk).trans a9
      have d10 := (HBw.out.cell (p := ⟨b, off + k * 12 + 10, none⟩) hbk).trans a10
      have d11 := (HBw.out.cell (p := ⟨b, off + k * 12 + 11, none⟩) hbk).trans a11
      have HC2 := veil (fun W => HC.out W k hlt)
      have hnm : fnName m k = m.funcs[k].name := fnName_at hlt
      have HNz := veil (HFu.out k hlt)
      have HLeD := veil (fnBads_le m l k)
      have HOk : Hid (oneCode m l k = 0 → fnOks m l (k + 1) = fnOks m l k ++ [oneSg m l k] ∧ fnBads m l (k + 1) = fnBads m l k) := fun h => ⟨(fnOks_ok h).1, (fnOks_ok h).2.1⟩
      have HBad : Hid (oneCode m l k ≠ 0 → fnOks m l (k + 1) = fnOks m l k ∧ fnBads m l (k + 1) = fnBads m l k ++ [⟨m.funcs[k].name, oneCode m l k⟩]) := fun h => ⟨(fnOks_bad h).1, by rw [← hnm]; exact (fnOks_bad h).2.1⟩
      clear a0 a1 a2 a3 a4 a5 a6 a7 a8 a9 a10 a11 hat hnm HF HC HFu HBads
      generalize m.funcs[k].name = nm at *
      generalize m.funcs[k].var = vr at *
      obtain ⟨W1, HW1, e0, hs1, hb1⟩ : ∃ W1, Hid (wr.alloc (.cells #[.string nm, .string vr, .slice vp1 vp2 vp3, .int .i64 kd, .string fo, .string na, .slice p1 p2 p3, .int .i64 ke, .int .i64 ne, .string fe, .string se, .slice ve1 ve2 ve3] 89) = W1) ∧ W1.cell? ⟨wr.heap.size, 0, none⟩ = some (.string nm) ∧ W1.heap.size = wr.heap.size + 1 ∧ Below wr.heap.size wr W1 :=
        ⟨_, rfl, by simp [go_sem], by simp, (Below.refl _ _).alloc (Nat.le_refl _) _⟩
      have HB1r := veil hb1
      have HBw1 := veil (HBw.out.trans (hb1.mono HBw.out.size))
      have hBw : w.heap.size < wr.heap.size := by omega
      clear hb1
      go_wp2_with fail
      rw [HW1.out]
      refine (HC2.out _ HBw1.out).mono ?_
      rintro e w2 ⟨xa, xn, xc, rfl, hsg, hb2⟩
      generalize oneSg m l k = og at *
      generalize oneCode m l k = oc at *
      generalize hsn : og.name = sn at *
      generalize hsr : og.result = sr at *
      obtain ⟨W5, HW5, hb5, hs5, s0, s1, s2⟩ : ∃ W5, Hid (w2.alloc (.cells #[.string sn, .slice xa xn xc, .string sr] 65) = W5) ∧ Below w2.heap.size w2 W5 ∧ W5.heap.size = w2.heap.size + 1 ∧ W5.cell? ⟨w2.heap.size, 0, none⟩ = some (.string sn) ∧ W5.cell? ⟨w2.heap.size, 1, none⟩ = some (.slice xa xn xc) ∧ W5.cell? ⟨w2.heap.size, 2, none⟩ = some (.string sr) :=
        ⟨_, rfl, (Below.refl _ _).alloc (Nat.le_refl _) _, by simp, by simp [go_sem], by simp [go_sem], by simp [go_sem]⟩
      have hb15 := hb2.trans (hb5.mono hb2.size)
      have hbr5 : Below wr.heap.size wr W5 := HB1r.out.trans (hb15.mono HB1r.out.size)
      have e1 := (hb15.cell (p := ⟨wr.heap.size, 0, none⟩) (by show wr.heap.size < _; omega)).trans e0
      have hlow := HB1r.out.size
      have HSg : Hid (SgIs (FnS w1.heap.size u8 u9 W5) W5 og (.agg #[.string sn, .slice xa xn xc, .string sr])) := hsg.keep ⟨fun b hb => hb5.block b hb.2, fun b hb => ⟨⟨by omega, Nat.lt_of_lt_of_le hb.2 hb5.size⟩, fun e => by have := (ownsRow_in HOwn.out b e).2; omega, fun e => by have := (ownsRow_in HOwnD.out b e).2; omega⟩⟩
      have HAll5 : Hid (∀ y ∈ ys, SgIs (FnS w1.heap.size u8 u9 W5) W5 y.1 (syAgg y)) := fun y hy => fnS_keep (HAll.out y hy) hbr5
      have HOwn5 := veil (ownsRow_later HOwn.out hbr5)
      have HOwnD5 := veil (ownsRow_later HOwnD.out hbr5)
      have HBl5 := veil (HBl.out.trans (hbr5.mono hszr))
      have hsz5 : w1.heap.size ≤ W5.heap.size := HBl5.out.size
      have HSn := veil hsn
      have HSr := veil hsr
      clear hs5 hsn hsr hsg hb2 hb5 hb15 hbr5 e0 HAll HOwn HOwnD HBl HB1r HC2 c0 c1 c2 g0 g1 g2 g3 d0 d1 d2 d3 d4 d5 d6 d7 d8 d9 d10 d11 hlow
      by_cases hc : oc = 0
      · subst hc
        have HZ := veil (HOk.out rfl)
        have hown5 := HOwn5.out
        clear HOk HBad e1
        go_wp2_with (first | (rw [HW5.out]; clear HW5) | (at_builtin; refine wpList_append_lies _ rfl _ _ 28 rfl w1.heap.size 65 i1 (.agg #[.string ⟨#[]⟩, .slice none 0 0, .string ⟨#[]⟩]) 3 56 Tryz.underlying28 hj hz3 hz4 hz5 rfl (by decide) _ _ _ rfl (hown5.alloc _) ⟨W5.heap.size, 0, none⟩ 1 1 [.string sn, .slice xa xn xc, .string sr] rfl rfl (three_new _ _ _ _ _) (sy_one _ _ _ _ _) (by decide) (by unfold maxLen; omega) (by omega) (by simp; omega) (W5.heap.size + 1) (by simp) ?_))
        intro g7 cap7 w7 hown7 hgrow7 hat7 hlt7
        have h06 : Below W5.heap.size W5 (W5.alloc (.cells #[.string sn, .slice xa xn xc, .string sr] 65)) := (Below.refl _ _).alloc (Nat.le_refl _) _
        have hrow := ownsRow_at hown5
        have hs6 : (W5.alloc (.cells #[.string sn, .slice xa xn xc, .string sr] 65)).heap.size = W5.heap.size + 1 := by simp
        have HL7 : Hid (Below w1.heap.size w1 w7) := (HBl5.out.alloc (by omega) (.cells #[.string sn, .slice xa xn xc, .string sr] 65)).grown hgrow7 (by rw [hs6]; omega) (fun j hj => hrow j hj)
        have HYs7 : Hid ((ys ++ [(og, xa, xn, xc)]).map Prod.fst = fnOks m l (k + 1)) := by
          show _ = _
          rw [List.map_append, HYs.out, HZ.out.1]; rfl
        have HO7 : Hid (w7.ownsRow w1.heap.size 65 3 (.slice (some ⟨g7, 0, none⟩) (ys.length + 1) cap7) (ys ++ [((og, xa, xn, xc) : Sy)]).length (syCells (ys ++ [((og, xa, xn, xc) : Sy)]))) := by
          show w7.ownsRow _ _ _ _ _ _
          rw [syCells_snoc, List.length_append]
          show w7.ownsRow _ _ _ _ _ (syCells ys ++ [.string og.name, .slice xa xn xc, .string og.result])
          rw [HSn.out, HSr.out]
          exact hown7
        have HA7 : Hid (∀ y ∈ ys ++ [((og, xa, xn, xc) : Sy)], SgIs (FnS w1.heap.size (.slice (some ⟨g7, 0, none⟩) (ys.length + 1) cap7) u9 w7) w7 y.1 (syAgg y)) := fun y hy => by
          rcases List.mem_append.1 hy with h | h
          · exact fnS_right (fnS_keep (HAll5.out y h) h06) hgrow7 hat7 (by rw [hs6]; exact Nat.le_refl _)
          · rw [List.mem_singleton.1 h]
            have := fnS_right (fnS_keep HSg.out h06) hgrow7 hat7 (n := ys.length + 1) (c := cap7) (by rw [hs6]; exact Nat.le_refl _)
            show SgIs _ _ og (.agg #[.string og.name, .slice xa xn xc, .string og.result])
            rw [HSn.out, HSr.out]
            exact this
        have HD7 : Hid (w7.ownsRow w1.heap.size 53 2 u9 (fnBads m l (k + 1)).length (dgCells (fnBads m l (k + 1)))) := by
          show w7.ownsRow _ _ _ _ _ _
          rw [HZ.out.2]
          exact owns_far (HOwnD5.out.alloc _) hgrow7 (fun j hj hv => HPar.out j hv hj)
        have HP7 : Hid (Parted (.slice (some ⟨g7, 0, none⟩) (ys.length + 1) cap7) u9) := (HPar.out.symm.grow (HOwnD5.out.alloc (.cells #[.string sn, .slice xa xn xc, .string sr] 65)) hat7 (by simp)).symm
        clear hown7 hgrow7 hat7 hlt7 h06 hrow hown5 hs6 s0 s1 s2
        go_wp2_with fail
        exact ⟨⟨k + 1, ys ++ [(og, xa, xn, xc)], by omega, by go_num, HYs7.out, HO7.out, HA7.out, HD7.out, HP7.out, HL7.out⟩, by simp [intOf]; omega⟩
      · have hc' : (oc != 0) = true := by simp [hc]
        have HZ := veil (HBad.out hc)
        clear HOk HBad hc s0 s1 s2 HSg
        go_wp2_with (rw [HW5.out]; clear HW5)
        refine (clone_kind nm _ HNz.out).mono ?_
        rintro e w6 ⟨rfl, hb6⟩
        have HAll6 : Hid (∀ y ∈ ys, SgIs (FnS w1.heap.size u8 u9 w6) w6 y.1 (syAgg y)) := fun y hy => fnS_keep (HAll5.out y hy) hb6
        have HOwn6 := veil (ownsRow_later HOwn5.out hb6)
        have hownD6 := ownsRow_later HOwnD5.out hb6
        have hsz6 : w1.heap.size ≤ w6.heap.size := Nat.le_trans hsz5 hb6.size
        have HBl6 := veil (HBl5.out.trans (hb6.mono hsz5))
        clear hb6 HAll5 HOwn5 HOwnD5 HBl5 e1
        go_wp2_with (at_builtin; refine wpList_append_lies _ rfl _ _ 31 rfl w1.heap.size 53 i0 (.agg #[.string ⟨#[]⟩, .int .i64 0]) 2 24 Tryz.underlying31 hi hz0 hz1 hz2 rfl (by decide) _ _ _ rfl (hownD6.alloc _) ⟨w6.heap.size, 0, none⟩ 1 1 [.string nm, .int .i64 oc] rfl rfl (cell_two_new _ _ _ _) (dg_one _ _) (by decide) (by have := HLeD.out; unfold maxLen; omega) (by have := HLeD.out; omega) (by simp; omega) (w6.heap.size + 1) (by simp) ?_)
        intro g7 cap7 w7 hown7 hgrow7 hat7 hlt7
        have h06 : Below w6.heap.size w6 (w6.alloc (.cells #[.string nm, .int .i64 oc] 53)) := (Below.refl _ _).alloc (Nat.le_refl _) _
        have hrow := ownsRow_at hownD6
        have hs6 : (w6.alloc (.cells #[.string nm, .int .i64 oc] 53)).heap.size = w6.heap.size + 1 := by simp
        have HL7 : Hid (Below w1.heap.size w1 w7) := (HBl6.out.alloc (by omega) (.cells #[.string nm, .int .i64 oc] 53)).grown hgrow7 (by rw [hs6]; omega) (fun j hj => hrow j hj)
        have HYs7 : Hid (ys.map Prod.fst = fnOks m l (k + 1)) := HYs.out.trans HZ.out.1.symm
        have HD7 : Hid (w7.ownsRow w1.heap.size 53 2 (.slice (some ⟨g7, 0, none⟩) ((fnBads m l k).length + 1) cap7) (fnBads m l (k + 1)).length (dgCells (fnBads m l (k + 1)))) := by
          show w7.ownsRow _ _ _ _ _ _
          rw [HZ.out.2, dgCells_snoc, List.length_append]
          exact hown7
        have HO7 : Hid (w7.ownsRow w1.heap.size 65 3 u8 ys.length (syCells ys)) := owns_far (HOwn6.out.alloc _) hgrow7 (fun j hj hv => HPar.out j hj hv)
        have HA7 : Hid (∀ y ∈ ys, SgIs (FnS w1.heap.size u8 (.slice (some ⟨g7, 0, none⟩) ((fnBads m l k).length + 1) cap7) w7) w7 y.1 (syAgg y)) := fun y hy =>
          fnS_wrong (fnS_keep (HAll6.out y hy) h06) hgrow7 hat7 (by rw [hs6]; exact Nat.le_refl _)
        have HP7 : Hid (Parted u8 (.slice (some ⟨g7, 0, none⟩) ((fnBads m l k).length + 1) cap7)) := HPar.out.grow (HOwn6.out.alloc (.cells #[.string nm, .int .i64 oc] 53)) hat7 (by simp)
        clear hown7 hgrow7 hat7 hlt7 h06 hrow hownD6 hs6
        go_wp2_with fail
        exact ⟨⟨k + 1, ys, by omega, by go_num, HYs7.out, HO7.out, HA7.out, HD7.out, HP7.out, HL7.out⟩, by simp [intOf]; omega⟩
    · have hnl : ¬ (k : Int) < (m.funcs.length : Int) := by omega
      have hke : k = m.funcs.length := by omega
      subst hke
      have HSort := veil (sort_sg HOwn.out (by omega) (apart_map (by rw [HYs.out]; exact fnOks_apart (Nat.le_refl _))))
      clear HF HC c0 c1 c2
      go_wp2_with fail
      refine HSort.out.mono ?_
      rintro e w3 ⟨rfl, ⟨l', hperm, hrise, hsl⟩, hgrow⟩
      have hownD3 := owns_far HOwnD.out hgrow (fun j hj hv => HPar.out j hv hj)
      have hbl3 := Below.grown HBl.out hgrow hszr (fun j hj => ownsRow_at HOwn.out j hj)
      have hszw3 := hbl3.size
      obtain ⟨_, hbw3, g0', g1', g2', g3'⟩ := HBox.out w3 (HB1.out.trans (hbl3.mono hsz1))
      have hle : l'.map Prod.fst = fnIns m l m.funcs.length := fnSorted ((hperm.map Prod.fst).trans (by rw [HYs.out])) (rises_map hrise)
      have hall3 : ∀ y ∈ l', SgIs (fun b => w1.heap.size ≤ b ∧ b < w3.heap.size) w3 y.1 (syAgg y) := fun y hy =>
        (HAll.out y (hperm.subset hy)).keep ⟨fun b hb => hgrow.block b hb.1.2 (fun e => hb.2.1 e.symm), fun b hb => ⟨hb.1.1, Nat.lt_of_lt_of_le hb.1.2 hgrow.size⟩⟩
      have hfs := sy_funcs (S := fun b => w1.heap.size ≤ b ∧ b < w3.heap.size) hsl (fun b hb => ⟨hb.1.2, hb.2⟩) hall3
      rw [hle] at hfs
      obtain ⟨ra, rn, rcp, hru⟩ := hfs.slice
      subst hru
      have hds := ownsRow_dgs hownD3 (Nat.le_trans (fnBads_le _ _ _) (by unfold maxLen; omega)) (HBads.out _)
      have HFin : Hid (∀ W', (∀ b, w0.heap.size ≤ b → b < w3.heap.size → W'.heap[b]? = w3.heap[b]?) → w3.heap.size ≤ W'.heap.size → FcIs (fun b => w.heap.size ≤ b ∧ b < W'.heap.size) W' ⟨tyIns m l m.types.length, fnIns m l m.funcs.length⟩ (.agg #[.slice ta tn tc, .slice ra rn rcp]) ∧ SlAt (fun b => w.heap.size ≤ b ∧ b < W'.heap.size) (DgAt W') 2 (fnBads m l m.funcs.length) u9) := fun W' hk' hsz' => by
        refine ⟨⟨_, _, rfl, knSl_keep (S' := fun b => w.heap.size ≤ b ∧ b < W'.heap.size) ⟨fun b hb => ?_, fun b hb => ?_⟩ HKn.out, sgSl_keep (S' := fun b => w.heap.size ≤ b ∧ b < W'.heap.size) ⟨fun b hb => hk' b (by omega) hb.2, fun b hb => by omega⟩ hfs⟩, dgSl_keep (S' := fun b => w.heap.size ≤ b ∧ b < W'.heap.size) ⟨fun b hb => hk' b (by omega) hb.2, fun b hb => by omega⟩ hds⟩
        · exact (hk' b hb.1 (Nat.lt_of_lt_of_le hb.2 hszw3)).trans (hbl3.block b hb.2)
        · omega
      have HB3 := veil hbw3
      have HSet : Hid (∀ W u0 u1, Below w.heap.size w W → Below w.heap.size w ((W.setCell ⟨w.heap.size + 1, 0, none⟩ u0).setCell ⟨w.heap.size + 1, 1, none⟩ u1)) := fun W u0 u1 h =>
        (h.setCell (by show w.heap.size ≤ w.heap.size + 1; omega) _).setCell (by show w.heap.size ≤ w.heap.size + 1; omega) _
      clear HOwn HOwnD HPar hownD3 hbl3 hbw3 hperm hrise hsl hgrow hle HSort hall3 hfs hds g0 g1 g2 g3
      go_wp2_with fail
      refine bodyPost_ret (v := .tuple #[.agg #[.slice ta tn tc, .slice ra rn rcp], u9]) (by simp [results, Tryz.results35, go_sem, g0', g1']) rfl ?_
      obtain ⟨hF1, hF2⟩ := HFin.out ((w3.setCell ⟨w.heap.size + 1, 0, none⟩ (.slice ta tn tc)).setCell ⟨w.heap.size + 1, 1, none⟩ (.slice ra rn rcp)) (fun b hb _ => by
        rw [Below.heap_setCell _ _ _ _ (by show b ≠ w.heap.size + 1; omega), Below.heap_setCell _ _ _ _ (by show b ≠ w.heap.size + 1; omega)]) (by simp)
      exact ⟨_, _, _, rfl, hF1, hF2, HSet.out _ _ _ HB3.out⟩

end Go.Proofs.YtagbaimfigljiaaGreatDoor
namespace Go.Proofs.YtagbaimfigljiaaGreatDoor
open Go.RowKit
set_option maxRecDepth 100000

theorem count_once {pre post : List UInt8} (h1 : (42 : UInt8) ∉ pre) (h2 : (42 : UInt8) ∉ post) : (pre ++ 42 :: post).count 42 = 1 := by
  rw [List.count_append, List.count_cons_self, List.count_eq_zero_of_not_mem h1, List.count_eq_zero_of_not_mem h2]

theorem index_once {pre post : List UInt8} (h1 : (42 : UInt8) ∉ pre) : Lib.indexByte (pre ++ 42 :: post) 42 = (pre.length : Int) := by
  have hge := Lib.indexByte_ge (pre ++ 42 :: post) 42
  have hne : Lib.indexByte (pre ++ 42 :: post) 42 ≠ -1 := fun e => Lib.indexByte_none e pre.length (by simp)
  obtain ⟨o, ho⟩ := Int.eq_ofNat_of_zero_le (show 0 ≤ Lib.indexByte (pre ++ 42 :: post) 42 by omega)
  obtain ⟨hs, hb⟩ := Lib.indexByte_some ho
  rw [ho]
  congr 1
  rcases Nat.lt_trichotomy o pre.length with h | h | h
  · rw [List.getElem?_append_left h] at hs
    exact absurd (List.mem_of_getElem? hs) h1
  · exact h
  · exact absurd (show (pre ++ 42 :: post)[pre.length]? = some 42 by simp) (hb pre.length h)

set_option maxHeartbeats 4000000 in
theorem replace_one (s new : ByteArray) (pre post : List UInt8) (hs : s.data.toList = pre ++ 42 :: post) (h1 : (42 : UInt8) ∉ pre) (h2 : (42 : UInt8) ∉ post) (hz : s.size ≤ 600) (hn : new.size ≤ 600) (w : World) :
    Calls Tryz.prog 63 #[.string s, .string ⟨#[42]⟩, .string new, .int .i64 1] w fun e w' => e = .returned (.string ⟨(pre ++ new.data.toList ++ post).toArray⟩) ∧ Below w.heap.size w w' := by
  cases hne : ([42] == new.toList) with
  | true =>
    have HE : Hid ((⟨(pre ++ new.data.toList ++ post).toArray⟩ : ByteArray) = s) := by
      have e : new.toList = [42] := (beq_iff_eq.1 hne).symm
      rw [Lib.toList_data] at e
      show _ = _
      rw [e]
      have : pre ++ [42] ++ post = s.data.toList := by rw [hs]; simp
      rw [this, Lib.mk_data]
    clear hs
    go_enter Tryz.func63, Tryz.ntmps63
    go_wp2
    go_ret
    exact ⟨by rw [HE.out]; rfl, Below.refl _ _⟩
  | false =>
    have HC := veilK (Any.strings_Count_one (P := Tryz.prog) (ρ := Tryz.lays154_ren) { Tryz.lays154 with } s 42 w)
    have HI := veilK (fun w => Any.strings_Index_one (P := Tryz.prog) (ρ := Tryz.lays154_ren) { Tryz.lays154 with } s 42 w)
    have HC1 := veilK (count_once h1 h2)
    have HI1 := veilK (@index_once pre post h1)
    have HS := veilK hs
    have hp : pre.length < s.size := by rw [Lib.size_eq, hs, List.length_append, List.length_cons]; omega
    clear hs h1 h2
    go_enter Tryz.func63, Tryz.ntmps63
    go_wp2_with fail
    refine HC.out.mono ?_
    rintro e w1 ⟨rfl, rfl⟩
    rw [show Lib.countByte s.data.toList 42 = 1 from by rw [HS.out]; exact HC1.out]
    go_wp2_with fail
    rw [show (s.size : Int) + ((new.size : Int) - 1) = ((s.size + new.size - 1 : Nat) : Int) by omega]
    refine (Any.Builder_Grow_fresh (P := Tryz.prog) (ρ := Tryz.lays154_ren) { Tryz.lays154 with } Tryz.Builder_Extra_154 w1.heap.size w1.heap.size (s.size + new.size - 1) _ (Nat.le_refl _) (heap_alloc_new w1 _) (by simp) (by omega)).mono ?_
    rintro e w2 ⟨rfl, hb0, hb1⟩
    have H2 := veilK (Or.inr hb0 : Lib.IsBuilder (Tryz.lays154_ren.t 72) (Tryz.lays154_ren.t 5) w1.heap.size w1.heap.size (Lib.byteCells []) w2)
    have HB2 := veilK (((Below.refl w1.heap.size w1).alloc (Nat.le_refl _) _).trans hb1)
    clear hb0 hb1 HC HC1
    go_wp2_with fail
    refine wp_loop_rounds 2 ?_
    rw [rounds_succ]
    go_wp2_with fail
    refine (Any.strings_Index_one (P := Tryz.prog) (ρ := Tryz.lays154_ren) { Tryz.lays154 with } _ 42 _).mono ?_
    rintro e w3 ⟨rfl, rfl⟩
    rw [HS.out, HI1.out]
    have hlt : (pre.length : Int) < (s.size : Int) := by omega
    have hle : (pre.length : Int) ≤ (s.size : Int) := by omega
    have hle1 : (pre.length : Int) + 1 ≤ (s.size : Int) := by omega
    have h0 : (0 : Int) ≤ (pre.length : Int) := by omega
    have h01 : (0 : Int) ≤ (pre.length : Int) + 1 := by omega
    have HZ : Hid (w1.heap.size ≤ w3.heap.size) := HB2.out.size
    go_wp2_with fail
    refine (Any.Builder_WriteString (P := Tryz.prog) (ρ := Tryz.lays154_ren) { Tryz.lays154 with } Tryz.Builder_Extra_154 w1.heap.size w1.heap.size _ (s.extract 0 pre.length) _ H2.out (by simp [Lib.byteCells]; omega) HZ.out).mono ?_
    rintro e w4 ⟨rfl, h4, hb4⟩
    have H4 := veilK (Or.inr h4 : Lib.IsBuilder (Tryz.lays154_ren.t 72) (Tryz.lays154_ren.t 5) w1.heap.size w1.heap.size _ w4)
    have HB4 := veilK (HB2.out.trans hb4)
    clear h4 hb4 H2 HB2
    go_wp2_with fail
    refine (Any.Builder_WriteString (P := Tryz.prog) (ρ := Tryz.lays154_ren) { Tryz.lays154 with } Tryz.Builder_Extra_154 w1.heap.size w1.heap.size _ new _ H4.out (by rw [List.length_append, Lib.byteCells_length, Lib.strCells_length, ByteArray.size_extract]; simp; omega) HB4.out.size).mono ?_
    rintro e w5 ⟨rfl, h5, hb5⟩
    have H5 := veilK (Or.inr h5 : Lib.IsBuilder (Tryz.lays154_ren.t 72) (Tryz.lays154_ren.t 5) w1.heap.size w1.heap.size _ w5)
    have HB5 := veilK (HB4.out.trans hb5)
    clear h5 hb5 H4 HB4
    go_wp2_with fail
    rw [rounds_succ]
    go_wp2_with fail
    refine (Any.Builder_WriteString (P := Tryz.prog) (ρ := Tryz.lays154_ren) { Tryz.lays154 with } Tryz.Builder_Extra_154 w1.heap.size w1.heap.size _ (s.extract (pre.length + 1) s.size) _ H5.out (by rw [List.length_append, List.length_append, Lib.byteCells_length, Lib.strCells_length, Lib.strCells_length, ByteArray.size_extract, ByteArray.size_extract]; simp; omega) HB5.out.size).mono ?_
    rintro e w6 ⟨rfl, h6, hb6⟩
    have HX : Hid (Lib.byteCells [] ++ Lib.strCells (s.extract 0 pre.length) ++ Lib.strCells new ++ Lib.strCells (s.extract (pre.length + 1) s.size) = Lib.byteCells (pre ++ new.data.toList ++ post)) := by
      show _ = _
      rw [Lib.strCells_eq, Lib.strCells_eq, Lib.strCells_eq, ← Lib.byteCells_append, ← Lib.byteCells_append, ← Lib.byteCells_append]
      congr 1
      rw [Lib.extract_data, Lib.extract_to_end, HS.out]
      simp
    rw [HX.out] at h6
    have H6 := veilK (Or.inr h6 : Lib.IsBuilder (Tryz.lays154_ren.t 72) (Tryz.lays154_ren.t 5) w1.heap.size w1.heap.size _ w6)
    have HB6 := veilK (HB5.out.trans hb6)
    clear h6 hb6 H5 HB5 HX
    go_wp2_with fail
    refine (Any.Builder_String_any (P := Tryz.prog) (ρ := Tryz.lays154_ren) { Tryz.lays154 with } Tryz.Builder_Extra_154 w1.heap.size w1.heap.size _ w6 H6.out HB6.out.size).mono ?_
    rintro e w7 ⟨rfl, hb7⟩
    have HB7 := veilK (HB6.out.trans hb7)
    clear hb7
    go_wp2
    go_ret
    exact ⟨by rw [List.append_assoc]; rfl, HB7.out⟩

end Go.Proofs.YtagbaimfigljiaaGreatDoor
