/- What face.copyEach answers at texts, and at types' names with what they are: the same, in a row of its own. -/
import Derived.Test.YtieoddnaknpmlaeFaceCopy1
import Derived.Test.YtieoddnaknpmlaeRowMade
namespace Go.Proofs.Ytieoddnaknpmlae
open Go.RowKit

theorem str_info : (Try.prog.info? 9).map (fun i => (i.zero, i.size, i.bytes)) = some (some (.string ⟨#[]⟩), 1, 16) := by kernel_rfl
theorem kn_info : (Try.prog.info? 53).map (fun i => (i.zero, i.size, i.bytes)) = some (some (.agg #[.string ⟨#[]⟩, .string ⟨#[]⟩]), 2, 32) := by kernel_rfl

def StrP (B : Nat) (W : World) (s : ByteArray) (o : Nat) : Prop := StrAt W s B o
theorem strP_stays (B : Nat) : Stays B 1 (StrP B) := fun W W' x o _ _ h hp => ⟨(h 0 (by omega)).trans hp.1, hp.2⟩
def KnP (B : Nat) (W : World) (k : Kn) (o : Nat) : Prop := KnAt W k B o
theorem knP_stays (B : Nat) : Stays B 2 (KnP B) := fun W W' x o _ _ h hp => ⟨⟨(h 0 (by omega)).trans hp.1.1, hp.1.2⟩, (h 1 (by omega)).trans hp.2.1, hp.2.2⟩

set_option maxHeartbeats 4000000 in
theorem copy_strs (S : Nat → Prop) (l : List ByteArray) (v : Value) (w : World) (hS : ∀ b, S b → b < w.heap.size) (hv : SlAt S (StrAt w) 1 l v) (hz : l.length * 16 ≤ reachBytes) (he : ∀ s ∈ l, s.size ≤ reachBytes) :
    Calls Try.prog 52 #[v, .func (.func 32) #[] #[]] w fun e w' => ∃ u, e = .returned u ∧ SlAt (fun b => w.heap.size ≤ b ∧ b < w'.heap.size) (StrAt w') 1 l u ∧ Below w.heap.size w w' := by
  have hr := reachBytes_lt
  have HL := veil (SlAt.len hv)
  have HV := veil hv
  obtain ⟨a, cap, rfl⟩ := hv.is
  have hlen : l.length ≤ 9223372036854775807 := by have := HL.out; unfold maxLen at this; omega
  obtain ⟨arr, harr, hmk⟩ := made_row Try.underlying32 str_info l.length (by omega) HL.out
  have HJ : Hid (RowJ w 9 1 (StrP w.heap.size) l 0 (w.alloc (.cells arr 9))) := RowJ.start harr
  have HZ := veil he
  clear hv hz he harr
  go_enter Try.func52, Try.ntmps52
  go_wp2_with fail
  clear hmk
  go_loopw [13] (fun i wr => ∃ j : Nat, j ≤ l.length ∧ i = .int .i64 j ∧ RowJ w 9 1 (StrP w.heap.size) l j wr) (fun i _ => l.length - (intOf i).toNat)
  case atStart => exact ⟨0, Nat.zero_le _, rfl, HJ.out⟩
  case round =>
    obtain ⟨j, hj, rfl, hrj⟩ := hrel
    have HR := veil hrj
    clear HJ
    by_cases hlt : j < l.length
    · have hlt' : (j : Int) < (l.length : Int) := by omega
      have hj0 : (0 : Int) ≤ (j : Int) := by omega
      obtain ⟨_, b, off, rfl, hb, a0, m0⟩ := HV.out.at hlt
      have hbk := hS b hb
      rw [Nat.mul_one] at a0
      have d0 := (hrj.bel.cell (p := ⟨b, off + j, none⟩) hbk).trans a0
      have HC : Hid (∀ W, Calls Try.prog 32 #[.string l[j]] W fun e w' => e = .returned (.string l[j]) ∧ Below W.heap.size W w') := fun W => clone_kind _ W (by have := HZ.out _ (List.getElem_mem hlt); omega)
      have HN : Hid (∀ W1, Below wr.heap.size wr W1 → RowJ w 9 1 (StrP w.heap.size) l (j + 1) (W1.setCell ⟨w.heap.size, j, none⟩ (.string l[j]))) := fun W1 h1 => by
        have := hrj.step (strP_stays _) h1 hlt [.string l[j]] rfl (fun hc _ _ => ⟨hc 0 (by simp), m0⟩)
        rw [Nat.mul_one] at this
        exact this
      have HRm : Hid (∀ W1, Below wr.heap.size wr W1 → (∃ u, W1.cell? ⟨w.heap.size, j, none⟩ = some u) ∧ W1.frozen? ⟨w.heap.size, j, none⟩ = false) := fun W1 h1 => by
        have := hrj.room h1 hlt 0 (by omega)
        rw [Nat.mul_one] at this
        exact this
      clear hrj a0 HV m0
      generalize l[j] = x at *
      go_wp2_with fail
      refine (HC.out _).mono ?_
      rintro e w' ⟨rfl, hb'⟩
      obtain ⟨⟨u, hu⟩, hfz⟩ := HRm.out _ hb'
      have HN' := veil (HN.out _ hb')
      clear hb'
      go_wp2_with fail
      exact ⟨⟨j + 1, by omega, by go_num, HN'.out⟩, by simp [intOf]; omega⟩
    · have hnl : ¬ (j : Int) < (l.length : Int) := by omega
      have hje : j = l.length := by omega
      have HW : Hid (SlAt (fun b => w.heap.size ≤ b ∧ b < wr.heap.size) (StrAt wr) 1 l (.slice (some ⟨w.heap.size, 0, none⟩) l.length l.length)) := by
        subst hje
        exact hrj.whole HL.out (S := fun b => w.heap.size ≤ b ∧ b < wr.heap.size) ⟨Nat.le_refl _, hrj.lt⟩ (fun _ _ h => h)
      have HB := veil hrj.bel
      clear hrj HV hje
      go_wp2_with fail
      go_ret
      exact ⟨_, rfl, HW.out, HB.out⟩

set_option maxHeartbeats 4000000 in
theorem copy_kns (S : Nat → Prop) (l : List Kn) (v : Value) (w : World) (hS : ∀ b, S b → b < w.heap.size) (hv : SlAt S (KnAt w) 2 l v) (hz : l.length * 32 ≤ reachBytes) (he : ∀ s ∈ l, knSmall s) :
    Calls Try.prog 69 #[v, .func (.func 70) #[] #[]] w fun e w' => ∃ u, e = .returned u ∧ SlAt (fun b => w.heap.size ≤ b ∧ b < w'.heap.size) (KnAt w') 2 l u ∧ Below w.heap.size w w' := by
  have hr := reachBytes_lt
  have HL := veil (SlAt.len hv)
  have HV := veil hv
  obtain ⟨a, cap, rfl⟩ := hv.is
  have hlen : l.length ≤ 9223372036854775807 := by have := HL.out; unfold maxLen at this; omega
  obtain ⟨arr, harr, hmk⟩ := made_row Try.underlying22 kn_info l.length (by omega) HL.out
  have HJ : Hid (RowJ w 53 2 (KnP w.heap.size) l 0 (w.alloc (.cells arr 53))) := RowJ.start harr
  have HZ := veil he
  clear hv hz he harr
  go_enter Try.func69, Try.ntmps69
  go_wp2_with fail
  clear hmk
  go_loopw [13] (fun i wr => ∃ j : Nat, j ≤ l.length ∧ i = .int .i64 j ∧ RowJ w 53 2 (KnP w.heap.size) l j wr) (fun i _ => l.length - (intOf i).toNat)
  case atStart => exact ⟨0, Nat.zero_le _, rfl, HJ.out⟩
  case round =>
    obtain ⟨j, hj, rfl, hrj⟩ := hrel
    have HR := veil hrj
    clear HJ
    by_cases hlt : j < l.length
    · have hlt' : (j : Int) < (l.length : Int) := by omega
      have hj0 : (0 : Int) ≤ (j : Int) := by omega
      obtain ⟨_, b, off, rfl, hb, ⟨a0, m0⟩, a1, m1⟩ := HV.out.at hlt
      have hbk := hS b hb
      have d0 := (hrj.bel.cell (p := ⟨b, off + j * 2, none⟩) hbk).trans a0
      have d1 := (hrj.bel.cell (p := ⟨b, off + j * 2 + 1, none⟩) hbk).trans a1
      have hsm := HZ.out _ (List.getElem_mem hlt)
      have HC : Hid (∀ W, Calls Try.prog 70 #[.agg #[.string l[j].name, .string l[j].is]] W fun e w' => e = .returned (.agg #[.string l[j].name, .string l[j].is]) ∧ Below W.heap.size W w') := fun W => copyType_any _ _ hsm.1 hsm.2 W
      have HN : Hid (∀ W1, Below wr.heap.size wr W1 → RowJ w 53 2 (KnP w.heap.size) l (j + 1) ((W1.setCell ⟨w.heap.size, j * 2, none⟩ (.string l[j].name)).setCell ⟨w.heap.size, j * 2 + 1, none⟩ (.string l[j].is))) := fun W1 h1 =>
        hrj.step (knP_stays _) h1 hlt [.string l[j].name, .string l[j].is] rfl (fun hc _ _ => ⟨⟨hc 0 (by simp), m0⟩, hc 1 (by simp), m1⟩)
      have HRm : Hid (∀ W1, Below wr.heap.size wr W1 → ((∃ u, W1.cell? ⟨w.heap.size, j * 2, none⟩ = some u) ∧ W1.frozen? ⟨w.heap.size, j * 2, none⟩ = false) ∧ (∃ u, W1.cell? ⟨w.heap.size, j * 2 + 1, none⟩ = some u) ∧ W1.frozen? ⟨w.heap.size, j * 2 + 1, none⟩ = false) := fun W1 h1 =>
        ⟨hrj.room h1 hlt 0 (by omega), hrj.room h1 hlt 1 (by omega)⟩
      have HA : Hid (∀ o, Below wr.heap.size wr (wr.alloc o)) := fun o => (Below.refl _ _).alloc (Nat.le_refl _) _
      have hbr : b < wr.heap.size := Nat.lt_of_lt_of_le hbk hrj.bel.size
      have hrlt := hrj.lt
      clear hrj a0 a1 HV m0 m1 hsm
      generalize l[j].name = x at *
      generalize l[j].is = y at *
      go_wp2_with fail
      refine (HC.out _).mono ?_
      rintro e w' ⟨rfl, hb'⟩
      have hb1 := (HA.out _).trans (hb'.mono (by simp))
      obtain ⟨⟨⟨u, hu⟩, hfz⟩, ⟨u', hu'⟩, hfz'⟩ := HRm.out _ hb1
      have HN' := veil (HN.out _ hb1)
      clear hb' hb1
      go_wp2_with fail
      exact ⟨⟨j + 1, by omega, by go_num, HN'.out⟩, by simp [intOf]; omega⟩
    · have hnl : ¬ (j : Int) < (l.length : Int) := by omega
      have hje : j = l.length := by omega
      have HW : Hid (SlAt (fun b => w.heap.size ≤ b ∧ b < wr.heap.size) (KnAt wr) 2 l (.slice (some ⟨w.heap.size, 0, none⟩) l.length l.length)) := by
        subst hje
        exact hrj.whole HL.out (S := fun b => w.heap.size ≤ b ∧ b < wr.heap.size) ⟨Nat.le_refl _, hrj.lt⟩ (fun _ _ h => h)
      have HB := veil hrj.bel
      clear hrj HV hje
      go_wp2_with fail
      go_ret
      exact ⟨_, rfl, HW.out, HB.out⟩

end Go.Proofs.Ytieoddnaknpmlae
