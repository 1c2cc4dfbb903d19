/- What the printer's args and expr write, at every expression that may be: its text. -/
import Derived.Test.YtieoddnaknpmlabGreatDoorJM
import Derived.Test.YtieoddnaknpmlabGreatDoorShelf
import Derived.Test.YtieoddnaknpmlabGreatDoorJC
namespace Go.Proofs.YtieoddnaknpmlabGreatDoor
open Go.RowKit
set_option maxRecDepth 100000

/-- Go's own table of the powers of ten lies below B. -/
def TabIn (B : Nat) (w : World) : Prop := ∃ g, Tryz.prog.globalNamed "internal/strconv.uint64pow10" = some g ∧ g < B ∧ Lib.TabIs Tryz.prog w "internal/strconv.uint64pow10" .u64 Lib.pow10Tab

theorem TabIn.keep {B : Nat} {w w' : World} (h : TabIn B w) (hb : Below B w w') : TabIn B w' := by
  obtain ⟨g, hg, hgB, ht⟩ := h
  refine ⟨g, hg, hgB, ?_⟩
  unfold Lib.TabIs World.var? at ht ⊢
  rw [hg] at ht ⊢
  simp only [Option.bind_some] at ht ⊢
  rw [hb.block g hgB]
  exact ht

theorem below_grow (w : World) (k : Nat) (os : Array Obj) : Below w.heap.size w (Go.Sort.grow (w.drewN k) os) := by
  refine ⟨rfl, rfl, rfl, ?_, fun i hi => ?_⟩
  · show w.heap.size ≤ (w.heap ++ os).size
    simp
  · show (w.heap ++ os)[i]? = w.heap[i]?
    rw [Array.getElem?_append_left hi]

theorem itoa_any (n : Int) (hn : isIn n 0 999999 = true) (B : Nat) (w : World) (ht : TabIn B w) : Calls Tryz.prog 89 #[.int .i64 n] w fun e w' => e = .returned (.string (textOf (numShown n))) ∧ Below w.heap.size w w' := by
  obtain ⟨_, _, _, ht⟩ := ht
  have hb : 0 ≤ n ∧ n ≤ 999999 := by simpa [isIn] using hn
  refine (Tryz.strconv_Itoa n (by omega) (by omega) w ht).mono ?_
  rintro e w' ⟨rfl, k, os, rfl⟩
  refine ⟨?_, below_grow _ _ _⟩
  rw [Lib.itoa, if_neg (by omega)]
  rfl

theorem exTo_le (l : List Ex) : ∀ k j, k ≤ j → (exTo l k).length ≤ (exTo l j).length
  | k, 0, h => by have : k = 0 := by omega
                  subst this; exact Nat.le_refl _
  | k, j + 1, h => by
    by_cases e : k = j + 1
    · subst e; exact Nat.le_refl _
    · have := exTo_le l k j (by omega)
      simp only [exTo, List.length_append]; omega

/-- the printer writes every expression that may be at that depth. -/
def ExprPrints (d : Nat) : Prop := ∀ (S : Nat → Prop) (B b : Nat) (x : Ex) (v : Value) (l : List UInt8) (w : World), (∀ c, S c → c < B) → ExIs S w x v → exFault x d = 0 → Wrote B b l w → TabIn B w → l.length + (exShown x).length ≤ 140737488355328 →
    Calls Tryz.prog 57 #[.pointer (some ⟨b, 0, none⟩), v] w fun e w' => e = .returned (.tuple #[]) ∧ Wrote B b (l ++ exShown x) w' ∧ Went B b w w'

set_option maxHeartbeats 2000000 in
theorem args_any (d : Nat) (ih : ExprPrints d) (S : Nat → Prop) (B b : Nat) (o f : ByteArray) (xs : List Ex) (v : Value) (l : List UInt8) (w : World) (hS : ∀ c, S c → c < B) (hv : SlAt S (ExAt S w) 5 xs v) (hx : ∀ j (hj : j < xs.length), exFault xs[j] d = 0) (hw : Wrote B b l w) (ht : TabIn B w)
    (hlen : l.length + (o.data.toList ++ (exJoin xs ++ f.data.toList)).length ≤ 140737488355328) :
    Calls Tryz.prog 90 #[.pointer (some ⟨b, 0, none⟩), .string o, v, .string f] w fun e w' => e = .returned (.tuple #[]) ∧ Wrote B b (l ++ (o.data.toList ++ (exJoin xs ++ f.data.toList))) w' ∧ Went B b w w' := by
  obtain ⟨a, cap, rfl, ⟨hl, hlC⟩, hrest⟩ := hv
  unfold maxLen at hl
  have HIH := veil ih
  have HR := veil hrest
  have HX := veil hx
  have HW := veil hw
  have HT := veil ht
  have HJ := veil (exTo_all xs)
  have hlt := builder_lt hw
  rw [← HJ.out] at hlen ⊢
  simp only [List.length_append] at hlen
  clear ih hrest hx hw ht
  go_enter Tryz.func90, Tryz.ntmps90
  go_wp2_with fail
  refine (write_new B b l [o] _ _ _ _ (by simp) rfl rfl o.data.toList HW.out (by simp) (by simp [joined]) (by omega)).mono ?_
  rintro e w1 ⟨rfl, q1, q2⟩
  have HW1 := veil q1
  have HE1 := veil q2
  clear q1 q2 HW
  go_wp2_with fail
  go_loopw [16] (fun i wr => ∃ k : Nat, k ≤ xs.length ∧ i = .int .i64 k ∧ Wrote B b (l ++ o.data.toList ++ exTo xs k) wr ∧ Went B b w wr) (fun i _ => xs.length - (intOf i).toNat)
  case atStart => exact ⟨0, Nat.zero_le _, rfl, by simpa [exTo] using HW1.out, HE1.out⟩
  case round =>
    clear HW1 HE1
    obtain ⟨k, hk, rfl, hwr, hwe⟩ := hrel
    have HWr := veil hwr
    have HEr := veil hwe
    have hltr := builder_lt hwr
    clear hwr hwe
    by_cases hltk : k < xs.length
    · rcases HR.out with h0 | ⟨bb, off, rfl, hb, hrow⟩
      · omega
      have hbw := hS bb hb
      obtain ⟨kd, nu, fo, na, va, c0, c1, c2, c3, c4, hcs⟩ := exAt_cells.1 (hrow.get k hltk)
      obtain ⟨va1, va2, va3, rfl⟩ := hcs.slice
      have d0 := (HEr.out.below.cell (p := ⟨bb, off + k * 5, none⟩) hbw).trans c0
      have d1 := (HEr.out.below.cell (p := ⟨bb, off + k * 5 + 1, none⟩) hbw).trans c1
      have d2 := (HEr.out.below.cell (p := ⟨bb, off + k * 5 + 2, none⟩) hbw).trans c2
      have d3 := (HEr.out.below.cell (p := ⟨bb, off + k * 5 + 3, none⟩) hbw).trans c3
      have d4 := (HEr.out.below.cell (p := ⟨bb, off + k * 5 + 4, none⟩) hbw).trans c4
      have HC := veil hcs
      have HX0 := veil (HX.out k hltk)
      have HST : Hid (exTo xs (k + 1) = exTo xs k ++ ((if k = 0 then [] else [44, 32]) ++ exShown xs[k])) := by show _ = _; rw [exTo, List.getElem?_eq_getElem hltk]; rfl
      have HLE := veil (exTo_le xs (k + 1) xs.length hltk)
      have HLE' : Hid ((exTo xs k).length + ((if k = 0 then [] else [44, 32] : List UInt8).length + (exShown xs[k]).length) ≤ (exTo xs xs.length).length) := by
        show _ ≤ _
        have := HLE.out
        rw [HST.out] at this
        simpa only [List.length_append] using this
      have HWa := veil (HWr.out.below ((Below.refl _ _).alloc (Nat.le_refl _) (.cells #[.int .i64 kd, .int .i64 nu, .string fo, .string na, .slice va1 va2 va3] 52)))
      have HEa := veil (HEr.out.alloc (by omega) (.cells #[.int .i64 kd, .int .i64 nu, .string fo, .string na, .slice va1 va2 va3] 52))
      have HNew := veil (heap_alloc_new wr (.cells #[.int .i64 kd, .int .i64 nu, .string fo, .string na, .slice va1 va2 va3] 52))
      have hnb : wr.heap.size ≠ b := by omega
      clear c0 c1 c2 c3 c4 hcs hrow HR HX HWr HEr
      go_wp2_with fail
      refine (comma_any B b k _ _ HWa.out ?_).mono ?_
      · intro hk0
        have h1 := HLE'.out
        rw [if_neg hk0] at h1
        simp only [List.length_cons, List.length_nil] at h1
        simp only [List.length_append]
        omega
      rintro e w2 ⟨rfl, q1, q2⟩
      have HW2 := veil q1
      have HE2 := veil (HEa.out.trans q2)
      have e0 : w2.cell? ⟨wr.heap.size, 0, none⟩ = some (.int .i64 kd) := q2.cell HNew.out hnb (by decide) 0
      have e1 : w2.cell? ⟨wr.heap.size, 1, none⟩ = some (.int .i64 nu) := q2.cell HNew.out hnb (by decide) 1
      have e2 : w2.cell? ⟨wr.heap.size, 2, none⟩ = some (.string fo) := q2.cell HNew.out hnb (by decide) 2
      have e3 : w2.cell? ⟨wr.heap.size, 3, none⟩ = some (.string na) := q2.cell HNew.out hnb (by decide) 3
      have e4 : w2.cell? ⟨wr.heap.size, 4, none⟩ = some (.slice va1 va2 va3) := q2.cell HNew.out hnb (by decide) 4
      clear q1 q2 HWa HEa HNew d0 d1 d2 d3 d4
      go_wp2_with fail
      refine (HIH.out S B b xs[k] _ _ w2 hS ⟨_, _, _, _, _, rfl, HC.out.keep (Keeps.below HE2.out.below hS)⟩ HX0.out HW2.out (HT.out.keep HE2.out.below) ?_).mono ?_
      · have h1 := HLE'.out
        simp only [List.length_append]
        omega
      rintro e w3 ⟨rfl, q1, q2⟩
      have HW3 : Hid (Wrote B b (l ++ o.data.toList ++ exTo xs (k + 1)) w3) := by
        show Wrote _ _ _ _
        rw [HST.out]
        simpa only [List.append_assoc] using q1
      have HE3 := veil (HE2.out.trans q2)
      clear q1 q2 HW2 HE2 e0 e1 e2 e3 e4
      go_wp2_with fail
      exact ⟨⟨k + 1, by omega, by go_num, HW3.out, HE3.out⟩, by simp [intOf]; omega⟩
    · have hkl : k = xs.length := by omega
      subst hkl
      clear HR HX HIH
      go_wp2_with fail
      refine (write_new B b _ [f] wr _ _ _ (by simp) rfl rfl f.data.toList HWr.out (by simp) (by simp [joined]) (by simp only [List.length_append]; omega)).mono ?_
      rintro e w3 ⟨rfl, q1, q2⟩
      go_wp2_with fail
      go_end0
      exact ⟨rfl, by simpa only [List.append_assoc] using q1, HEr.out.trans q2⟩

theorem SlAt.tail {S : Nat → Prop} {w : World} {x : Ex} {r : List Ex} {bb off n cap : Nat} (h : RowAt (ExAt S w) 5 (x :: r) bb off) (hb : S bb) (hl : r.length ≤ maxLen) (hc : r.length ≤ cap) (hn : n = r.length) : SlAt S (ExAt S w) 5 r (.slice (some ⟨bb, off + 5, none⟩) n cap) :=
  ⟨_, cap, by rw [hn], ⟨hl, hc⟩, Or.inr ⟨bb, off + 5, rfl, hb, h.2⟩⟩

theorem cell_in {B b : Nat} {w w' : World} (h : Went B b w w') {c : Nat} (hc : c < B) (o : Nat) : w'.cell? ⟨c, o, none⟩ = w.cell? ⟨c, o, none⟩ := h.below.cell (p := ⟨c, o, none⟩) hc

set_option maxHeartbeats 8000000 in
set_option maxRecDepth 100000 in
theorem expr_step (d : Nat) (ih : ExprPrints (d + 1)) : ExprPrints d := by
    rintro S B b t v l w hS ⟨k, n, o, s, va, rfl, xs, rfl, hos, hss, hsl⟩ hf hw ht hlen
    have HIH := veil ih
    clear ih
    obtain ⟨hd10, hk, h8, hk1, hnf, hcf, hr, hxs⟩ := ex_ok hf
    have hlt := builder_lt hw
    obtain ⟨a, cap, rfl, ⟨hl, hlC⟩, hrest⟩ := hsl
    have HB : Hid (Went B b w (w.alloc (.cells #[.int .i64 k, .int .i64 n, .string o, .string s, .slice a xs.length cap] 52))) := Went.of_below ((Below.refl _ _).alloc (Nat.le_refl _) _) (by omega)
    have HW : Hid (Wrote B b l (w.alloc (.cells #[.int .i64 k, .int .i64 n, .string o, .string s, .slice a xs.length cap] 52))) := hw.below ((Below.refl _ _).alloc (Nat.le_refl _) _)
    have HT := veil ht
    have HS : Hid (exShown (.mk k n o s xs) = if k = 1 then numShown n
      else if k = 2 then [34] ++ (s.data.toList ++ [34])
      else if k = 3 then s.data.toList
      else if k = 4 then nameShown o s ++ ([40] ++ (exJoin xs ++ [41]))
      else if k = 5 then [40] ++ (exFst xs ++ ([32, 43, 32] ++ (exSnd xs ++ [41])))
      else if k = 6 then [91] ++ (exJoin xs ++ [93])
      else exFst xs ++ ([91] ++ (exSnd xs ++ [93]))) := by show _ = _; rw [exShown]
    have HNew := veil (heap_alloc_new w (.cells #[.int .i64 k, .int .i64 n, .string o, .string s, .slice a xs.length cap] 52))
    have hwb : w.heap.size ≠ b := by omega
    clear hw hf ht
    by_cases h1 : k = 1
    · subst h1
      rw [if_pos rfl] at HS
      rw [HS.out] at hlen ⊢
      clear HS hrest HIH hxs hk
      go_enter Tryz.func57, Tryz.ntmps57
      go_wp2_with fail
      refine (itoa_any n hr B _ (HT.out.keep HB.out.below)).mono ?_
      rintro e w1 ⟨rfl, q1⟩
      have HW1 := veil (HW.out.below q1)
      have HB1 := veil (HB.out.trans (Went.of_below (b := b) q1 (by simp; omega)))
      clear q1
      go_wp2_with fail
      refine (write_new B b l [textOf (numShown n)] w1 _ _ _ (by simp) rfl rfl (numShown n) HW1.out (by simp) (by simp [joined, textOf]) hlen).mono ?_
      rintro e w2 ⟨rfl, q1, q2⟩
      go_wp2_with fail
      go_end0
      exact ⟨rfl, q1, HB1.out.trans q2⟩
    rw [if_neg h1] at HS
    have h1' : (k == 1) = false := beq_eq_false_iff_ne.2 h1
    by_cases h2 : k = 2
    · subst h2
      rw [if_pos rfl] at HS
      rw [HS.out] at hlen ⊢
      clear HS hrest HIH hxs hk HNew
      go_enter Tryz.func57, Tryz.ntmps57
      go_wp2_with fail
      refine (write_new B b l [⟨#[34]⟩, s, ⟨#[34]⟩] _ _ _ _ (by simp) rfl rfl ([34] ++ (s.data.toList ++ [34])) HW.out (by simp) (by simp [joined]) hlen).mono ?_
      rintro e w1 ⟨rfl, q1, q2⟩
      go_wp2_with fail
      go_end0
      exact ⟨rfl, q1, HB.out.trans q2⟩
    rw [if_neg h2] at HS
    have h2' : (k == 2) = false := beq_eq_false_iff_ne.2 h2
    by_cases h3 : k = 3
    · subst h3
      rw [if_pos rfl] at HS
      rw [HS.out] at hlen ⊢
      clear HS hrest HIH hxs hk HNew
      go_enter Tryz.func57, Tryz.ntmps57
      go_wp2_with fail
      refine (write_new B b l [s] _ _ _ _ (by simp) rfl rfl (s.data.toList) HW.out (by simp) (by simp [joined]) hlen).mono ?_
      rintro e w1 ⟨rfl, q1, q2⟩
      go_wp2_with fail
      go_end0
      exact ⟨rfl, q1, HB.out.trans q2⟩
    rw [if_neg h3] at HS
    have h3' : (k == 3) = false := beq_eq_false_iff_ne.2 h3
    by_cases h4 : k = 4
    · subst h4
      rw [if_pos rfl] at HS
      rw [HS.out] at hlen ⊢
      have HV : Hid (SlAt S (ExAt S w) 5 xs (.slice a xs.length cap)) := ⟨a, cap, rfl, ⟨hl, hlC⟩, hrest⟩
      have HX := veil (exs_at hxs)
      simp only [List.length_append, List.length_cons, List.length_nil] at hlen
      clear HS hrest hxs hk
      go_enter Tryz.func57, Tryz.ntmps57
      go_wp2_with fail
      refine (name_any B b o s l _ HW.out (by omega)).mono ?_
      rintro e w1 ⟨rfl, q1, q2⟩
      have HW1 := veil q1
      have HB1 := veil (HB.out.trans q2)
      have e4 : w1.cell? ⟨w.heap.size, 4, none⟩ = some (.slice a xs.length cap) := q2.cell HNew.out hwb (by decide) 4
      clear q1 q2
      go_wp2_with fail
      refine (args_any (d + 1) HIH.out S B b ⟨#[40]⟩ ⟨#[41]⟩ xs _ _ w1 hS (exSl_keep (Keeps.below HB1.out.below hS) HV.out) HX.out HW1.out (HT.out.keep HB1.out.below) (by simp only [List.length_append, List.length_cons, List.length_nil]; omega)).mono ?_
      rintro e w2 ⟨rfl, q1, q2⟩
      go_wp2_with fail
      go_end0
      exact ⟨rfl, by simpa [List.append_assoc] using q1, HB1.out.trans q2⟩
    rw [if_neg h4] at HS
    have h4' : (k == 4) = false := beq_eq_false_iff_ne.2 h4
    by_cases h5 : k = 5
    · subst h5
      rw [if_pos rfl] at HS
      have hc : xs.length = 2 := by
        have hcf' : (xs.length == 2) = true := hcf
        simpa using hcf'
      match xs, hc with
      | [x0, x1], _ =>
        rcases hrest with h0 | ⟨bb, off, rfl, hb, hrow⟩
        · simp at h0
        have hbw := hS bb hb
        have hx0 := hrow.get 0 (by simp)
        have hx1 := hrow.get 1 (by simp)
        simp only [Nat.zero_mul, Nat.one_mul, Nat.add_zero, List.getElem_cons_zero, List.getElem_cons_succ] at hx0 hx1
        have f0 : exFault x0 (d + 1) = 0 := exs_at hxs 0 (by simp)
        have f1 : exFault x1 (d + 1) = 0 := exs_at hxs 1 (by simp)
        have hh0 : exFst [x0, x1] = exShown x0 := by rw [exFst]
        have hh1 : exSnd [x0, x1] = exShown x1 := by rw [exSnd, exFst]
        rw [HS.out, hh0, hh1] at hlen ⊢
        simp only [List.length_append, List.length_cons, List.length_nil] at hlen
        obtain ⟨kd, nu, fo, na, va, c0, c1, c2, c3, c4, hcs⟩ := exAt_cells.1 hx0
        obtain ⟨va1, va2, va3, rfl⟩ := hcs.slice
        have HC := veil hcs
        obtain ⟨ke, ne, fe, se, ve, g0, g1, g2, g3, g4, hce⟩ := exAt_cells.1 hx1
        obtain ⟨ve1, ve2, ve3, rfl⟩ := hce.slice
        have HE := veil hce
        clear HS hxs hk hrow hx0 hx1 hcs hce hh0 hh1
        simp only [List.length_cons, List.length_nil, Nat.zero_add, Nat.reduceAdd] at *
        go_enter Tryz.func57, Tryz.ntmps57
        go_wp2_with fail
        refine (write_new B b l [⟨#[40]⟩] _ _ _ _ (by simp) rfl rfl [40] HW.out (by decide) rfl (by simp only [List.length_cons, List.length_nil]; omega)).mono ?_
        rintro e w1 ⟨rfl, q1, q2⟩
        have HW1 := veil q1
        have HB1 := veil (HB.out.trans q2)
        have e4 : w1.cell? ⟨w.heap.size, 4, none⟩ = some (.slice (some ⟨bb, off, none⟩) 2 cap) := q2.cell HNew.out hwb (by decide) 4
        have d0 := (cell_in HB1.out hbw off).trans c0
        have d1 := (cell_in HB1.out hbw (off + 1)).trans c1
        have d2 := (cell_in HB1.out hbw (off + 2)).trans c2
        have d3 := (cell_in HB1.out hbw (off + 3)).trans c3
        have d4 := (cell_in HB1.out hbw (off + 4)).trans c4
        have HQ := veil (fun (W : World) (h : Went B b w1 W) => (q2.trans h).cell HNew.out hwb (by decide) 4)
        clear q1 q2 c0 c1 c2 c3 c4
        go_wp2_with fail
        refine (HIH.out S B b x0 _ _ w1 hS ⟨_, _, _, _, _, rfl, HC.out.keep (Keeps.below HB1.out.below hS)⟩ f0 HW1.out (HT.out.keep HB1.out.below) (by simp only [List.length_append, List.length_cons, List.length_nil]; omega)).mono ?_
        rintro e w2 ⟨rfl, q1, q2⟩
        have HW2 := veil q1
        have HB2 := veil (HB1.out.trans q2)
        have HQ2 := veil q2
        clear q1 q2 d0 d1 d2 d3 d4 e4
        go_wp2_with fail
        refine (write_new B b _ [⟨#[32, 43, 32]⟩] w2 _ _ _ (by simp) rfl rfl [32, 43, 32] HW2.out (by decide) rfl (by simp only [List.length_append, List.length_cons, List.length_nil]; omega)).mono ?_
        rintro e w3 ⟨rfl, q1, q2⟩
        have HW3 := veil q1
        have HB3 := veil (HB2.out.trans q2)
        have e4 : w3.cell? ⟨w.heap.size, 4, none⟩ = some (.slice (some ⟨bb, off, none⟩) 2 cap) := HQ.out w3 (HQ2.out.trans q2)
        have d0 := (cell_in HB3.out hbw (off + 5)).trans g0
        have d1 := (cell_in HB3.out hbw (off + 5 + 1)).trans g1
        have d2 := (cell_in HB3.out hbw (off + 5 + 2)).trans g2
        have d3 := (cell_in HB3.out hbw (off + 5 + 3)).trans g3
        have d4 := (cell_in HB3.out hbw (off + 5 + 4)).trans g4
        clear q1 q2 g0 g1 g2 g3 g4 HQ HQ2
        go_wp2_with fail
        refine (HIH.out S B b x1 _ _ w3 hS ⟨_, _, _, _, _, rfl, HE.out.keep (Keeps.below HB3.out.below hS)⟩ f1 HW3.out (HT.out.keep HB3.out.below) (by simp only [List.length_append, List.length_cons, List.length_nil]; omega)).mono ?_
        rintro e w4 ⟨rfl, q1, q2⟩
        have HW4 := veil q1
        have HB4 := veil (HB3.out.trans q2)
        clear q1 q2 d0 d1 d2 d3 d4 e4
        go_wp2_with fail
        refine (write_new B b _ [⟨#[41]⟩] w4 _ _ _ (by simp) rfl rfl [41] HW4.out (by decide) rfl (by simp only [List.length_append, List.length_cons, List.length_nil]; omega)).mono ?_
        rintro e w5 ⟨rfl, q1, q2⟩
        go_wp2_with fail
        go_end0
        exact ⟨rfl, by simpa [List.append_assoc] using q1, HB4.out.trans q2⟩
    rw [if_neg h5] at HS
    have h5' : (k == 5) = false := beq_eq_false_iff_ne.2 h5
    by_cases h6 : k = 6
    · subst h6
      rw [if_pos rfl] at HS
      rw [HS.out] at hlen ⊢
      have HV : Hid (SlAt S (ExAt S w) 5 xs (.slice a xs.length cap)) := ⟨a, cap, rfl, ⟨hl, hlC⟩, hrest⟩
      have HX := veil (exs_at hxs)
      clear HS hrest hxs hk
      go_enter Tryz.func57, Tryz.ntmps57
      go_wp2_with fail
      refine (args_any (d + 1) HIH.out S B b ⟨#[91]⟩ ⟨#[93]⟩ xs _ _ _ hS (exSl_keep (Keeps.below HB.out.below hS) HV.out) HX.out HW.out (HT.out.keep HB.out.below) hlen).mono ?_
      rintro e w2 ⟨rfl, q1, q2⟩
      go_wp2_with fail
      go_end0
      exact ⟨rfl, q1, HB.out.trans q2⟩
    rw [if_neg h6] at HS
    have h6' : (k == 6) = false := beq_eq_false_iff_ne.2 h6
    have h7 : k = 7 := by simp [isIn] at hk; omega
    subst h7
    have hc : xs.length = 2 := by
      have hcf' : (xs.length == 2) = true := hcf
      simpa using hcf'
    match xs, hc with
    | [x0, x1], _ =>
      rcases hrest with h0 | ⟨bb, off, rfl, hb, hrow⟩
      · simp at h0
      have hbw := hS bb hb
      have hx0 := hrow.get 0 (by simp)
      have hx1 := hrow.get 1 (by simp)
      simp only [Nat.zero_mul, Nat.one_mul, Nat.add_zero, List.getElem_cons_zero, List.getElem_cons_succ] at hx0 hx1
      have f0 : exFault x0 (d + 1) = 0 := exs_at hxs 0 (by simp)
      have f1 : exFault x1 (d + 1) = 0 := exs_at hxs 1 (by simp)
      have hh0 : exFst [x0, x1] = exShown x0 := by rw [exFst]
      have hh1 : exSnd [x0, x1] = exShown x1 := by rw [exSnd, exFst]
      rw [HS.out, hh0, hh1] at hlen ⊢
      simp only [List.length_append, List.length_cons, List.length_nil] at hlen
      obtain ⟨kd, nu, fo, na, va, c0, c1, c2, c3, c4, hcs⟩ := exAt_cells.1 hx0
      obtain ⟨va1, va2, va3, rfl⟩ := hcs.slice
      have HC := veil hcs
      have hcap : 2 ≤ cap := by simpa using hlC
      have hc1 : (cap == 1) = false := beq_eq_false_iff_ne.2 (by omega)
      have hc2 : ¬ cap = 1 := by omega
      have HV := veil (SlAt.tail (n := 1) (cap := cap - 1) hrow hb (by simp [maxLen]) (by simp; omega) rfl)
      have hfx : ∀ j (hj : j < [x1].length), exFault [x1][j] (d + 1) = 0 := fun j hj => by
        have : j = 0 := by simpa using hj
        subst this
        exact f1
      have HFX := veil hfx
      clear hfx
      have hj1 : exJoin [x1] = exShown x1 := by rw [exJoin, exMore, List.append_nil]
      clear HS hxs hk hrow hx0 hx1 hcs hh0 hh1
      simp only [List.length_cons, List.length_nil, Nat.zero_add, Nat.reduceAdd] at *
      go_enter Tryz.func57, Tryz.ntmps57
      have d0 := (cell_in HB.out hbw off).trans c0
      have d1 := (cell_in HB.out hbw (off + 1)).trans c1
      have d2 := (cell_in HB.out hbw (off + 2)).trans c2
      have d3 := (cell_in HB.out hbw (off + 3)).trans c3
      have d4 := (cell_in HB.out hbw (off + 4)).trans c4
      clear c0 c1 c2 c3 c4
      go_wp2_with fail
      refine (HIH.out S B b x0 _ _ _ hS ⟨_, _, _, _, _, rfl, HC.out.keep (Keeps.below HB.out.below hS)⟩ f0 HW.out (HT.out.keep HB.out.below) (by omega)).mono ?_
      rintro e w1 ⟨rfl, q1, q2⟩
      have HW1 := veil q1
      have HB1 := veil (HB.out.trans q2)
      have e4 : w1.cell? ⟨w.heap.size, 4, none⟩ = some (.slice (some ⟨bb, off, none⟩) 2 cap) := q2.cell HNew.out hwb (by decide) 4
      clear q1 q2 d0 d1 d2 d3 d4
      go_wp2_with fail
      refine (args_any (d + 1) HIH.out S B b ⟨#[91]⟩ ⟨#[93]⟩ [x1] _ _ w1 hS (exSl_keep (Keeps.below HB1.out.below hS) HV.out) HFX.out HW1.out (HT.out.keep HB1.out.below) (by rw [hj1]; simp only [List.length_append, List.length_cons, List.length_nil]; omega)).mono ?_
      rintro e w2 ⟨rfl, q1, q2⟩
      rw [hj1] at q1
      go_wp2_with fail
      go_end0
      exact ⟨rfl, by simpa [List.append_assoc] using q1, HB1.out.trans q2⟩

theorem expr_any : ∀ (m d : Nat), 10 < d + m → ExprPrints d := by
  intro m
  induction m with
  | zero =>
    rintro d hd S B b ⟨k, n, o, s, xs⟩ v l w hS hv hf
    have := (ex_ok hf).1
    omega
  | succ m ih =>
    intro d hd
    exact expr_step d (ih (d + 1) (by omega))

end Go.Proofs.YtieoddnaknpmlabGreatDoor

/- What the printer's fun, and tree.Show, write, at every function and module that may be: their text. -/
namespace Go.Proofs.YtieoddnaknpmlabGreatDoor
open Go.RowKit
set_option maxRecDepth 100000

theorem fdTo_le (l : List Fd) : ∀ k j, k ≤ j → (fdTo l k).length ≤ (fdTo l j).length
  | k, 0, h => by have : k = 0 := by omega
                  subst this; exact Nat.le_refl _
  | k, j + 1, h => by
    by_cases e : k = j + 1
    · subst e; exact Nat.le_refl _
    · have := fdTo_le l k j (by omega)
      simp only [fdTo, List.length_append]; omega

set_option maxHeartbeats 8000000 in
set_option maxRecDepth 100000 in
theorem fun_any (S : Nat → Prop) (B b : Nat) (x : Fu) (v : Value) (l : List UInt8) (w : World) (hS : ∀ c, S c → c < B) (hx : FuIs S w x v) (hf : fuFault x = 0) (hw : Wrote B b l w) (ht : TabIn B w) (hlen : l.length + (fuShown x).length ≤ 140737488355328) :
    Calls Tryz.prog 26 #[.pointer (some ⟨b, 0, none⟩), v] w fun e w' => e = .returned (.tuple #[]) ∧ Wrote B b (l ++ fuShown x) w' ∧ Went B b w w' := by
  obtain ⟨vp, k, f, n, va, k', n', f', s', va', rfl, hsz, hsz1, hps, hcs, hce⟩ := hx
  obtain ⟨va1, va2, va3, rfl⟩ := hcs.slice
  obtain ⟨ve1, ve2, ve3, rfl⟩ := hce.slice
  obtain ⟨vp1, vp3, rfl, ⟨hplen, _⟩, hprest⟩ := hps
  unfold maxLen at hplen
  obtain ⟨hnam, hvar, hp8, hfd, hres, hbody⟩ := fu_ok hf
  have HPR := veil hprest
  have HCT := veil hcs
  have HCE := veil hce
  have HFD := veil hfd
  have HTab := veil ht
  have hlt := builder_lt hw
  have HB : Hid (Went B b w (w.alloc (.cells #[.string x.name, .string x.var, .slice vp1 x.params.length vp3, .int .i64 k, .string f, .string n, .slice va1 va2 va3, .int .i64 k', .int .i64 n', .string f', .string s', .slice ve1 ve2 ve3] 54))) := Went.of_below ((Below.refl _ _).alloc (Nat.le_refl _) _) (by omega)
  have HW : Hid (Wrote B b l (w.alloc (.cells #[.string x.name, .string x.var, .slice vp1 x.params.length vp3, .int .i64 k, .string f, .string n, .slice va1 va2 va3, .int .i64 k', .int .i64 n', .string f', .string s', .slice ve1 ve2 ve3] 54))) := hw.below ((Below.refl _ _).alloc (Nat.le_refl _) _)
  have HNew := veil (heap_alloc_new w (.cells #[.string x.name, .string x.var, .slice vp1 x.params.length vp3, .int .i64 k, .string f, .string n, .slice va1 va2 va3, .int .i64 k', .int .i64 n', .string f', .string s', .slice ve1 ve2 ve3] 54))
  have hwb : w.heap.size ≠ b := by omega
  have HVN := veil (noneB_text x.var)
  clear hcs hce hprest hfd ht hw hf
  cases hv0 : (x.var.toList == [])
  · have hvs : varShown x.var = [60] ++ (x.var.data.toList ++ [62]) := if_neg (by rw [← HVN.out, hv0]; simp)
    rw [fuShown, hvs] at hlen ⊢
    simp only [List.length_append, List.length_cons, List.length_nil] at hlen
    clear hvs HVN
    go_enter Tryz.func26, Tryz.ntmps26
    go_wp2_with fail
    refine (write_new B b l [⟨#[102, 117, 110, 99, 32]⟩, x.name] _ _ _ _ (by simp) rfl rfl ([102, 117, 110, 99, 32] ++ x.name.data.toList) HW.out (by simp) (by simp [joined]) (by simp only [List.length_append, List.length_cons, List.length_nil]; omega)).mono ?_
    rintro e w1 ⟨rfl, q1, q2⟩
    have HW1 := veil q1
    have HE1 := veil q2
    have e1 : w1.cell? ⟨w.heap.size, 1, none⟩ = some (.string x.var) := q2.cell HNew.out hwb (by decide) 1
    clear q1 q2 HW
    go_wp2_with fail
    refine (write_new B b _ [⟨#[60]⟩, x.var, ⟨#[62]⟩] w1 _ _ _ (by simp) rfl rfl ([60] ++ (x.var.data.toList ++ [62])) HW1.out (by simp) (by simp [joined]) (by simp only [List.length_append, List.length_cons, List.length_nil]; omega)).mono ?_
    rintro e w2 ⟨rfl, q1, q2⟩
    have HW2 := veil q1
    have HE2 := veil (HE1.out.trans q2)
    clear q1 q2 HW1 HE1 e1
    go_wp2_with fail
    refine (write_new B b _ [⟨#[40]⟩] w2 _ _ _ (by simp) rfl rfl [40] HW2.out (by decide) rfl (by simp only [List.length_append, List.length_cons, List.length_nil]; omega)).mono ?_
    rintro e w3 ⟨rfl, q1, q2⟩
    have HWs := veil q1
    have HEs := veil (HE2.out.trans q2)
    have e2 : w3.cell? ⟨w.heap.size, 2, none⟩ = some (.slice vp1 x.params.length vp3) := HEs.out.cell HNew.out hwb (by decide) 2
    clear q1 q2 HW2 HE2
    go_wp2_with fail
    go_loopw [25] (fun i wr => ∃ j : Nat, j ≤ x.params.length ∧ i = .int .i64 j ∧ Wrote B b ((l ++ ([102, 117, 110, 99, 32] ++ x.name.data.toList) ++ ([60] ++ (x.var.data.toList ++ [62])) ++ [40]) ++ fdTo x.params j) wr ∧ Went B b (w.alloc (.cells #[.string x.name, .string x.var, .slice vp1 x.params.length vp3, .int .i64 k, .string f, .string n, .slice va1 va2 va3, .int .i64 k', .int .i64 n', .string f', .string s', .slice ve1 ve2 ve3] 54)) wr) (fun i _ => x.params.length - (intOf i).toNat)
    case atStart => exact ⟨0, Nat.zero_le _, rfl, by simpa [fdTo] using HWs.out, HEs.out⟩
    case round =>
      clear HWs HEs
      obtain ⟨j, hj, rfl, hwr, hwe⟩ := hrel
      have HWr := veil hwr
      have HEr := veil hwe
      have hltr := builder_lt hwr
      clear hwr hwe
      by_cases hltk : j < x.params.length
      · rcases HPR.out with h0 | ⟨bb, off, rfl, hb, hrow⟩
        · omega
        have hbw := hS bb hb
        obtain ⟨⟨c0, hfs⟩, hty⟩ := hrow.get j hltk
        obtain ⟨kd, fo, na, va, c1, c2, c3, c4, hcs⟩ := tyAt_cells.1 hty
        obtain ⟨vb1, vb2, vb3, rfl⟩ := hcs.slice
        rw [Nat.add_assoc] at c2 c3 c4
        have hwent := HB.out.trans HEr.out
        have d0 := (cell_in hwent hbw (off + j * 5)).trans c0
        have d1 := (cell_in hwent hbw (off + j * 5 + 1)).trans c1
        have d2 := (cell_in hwent hbw (off + j * 5 + 2)).trans c2
        have d3 := (cell_in hwent hbw (off + j * 5 + 3)).trans c3
        have d4 := (cell_in hwent hbw (off + j * 5 + 4)).trans c4
        have HC := veil hcs
        have hfd := HFD.out j hltk
        have HTy : Hid (tyFault x.params[j].is 1 = 0) := by
          show _ = _
          unfold fdFault at hfd
          split at hfd
          · exact hfd
          · omega
        have HST : Hid (fdTo x.params (j + 1) = fdTo x.params j ++ ((if j = 0 then [] else [44, 32]) ++ fdShown x.params[j])) := by show _ = _; rw [fdTo, List.getElem?_eq_getElem hltk]; rfl
        have HFS : Hid (fdShown x.params[j] = x.params[j].name.data.toList ++ ([58, 32] ++ tyShown x.params[j].is)) := rfl
        have HLE' : Hid ((fdTo x.params j).length + ((if j = 0 then [] else [44, 32] : List UInt8).length + (x.params[j].name.data.toList.length + (2 + (tyShown x.params[j].is).length))) ≤ (fdTo x.params x.params.length).length) := by
          show _ ≤ _
          have := fdTo_le x.params (j + 1) x.params.length hltk
          rw [HST.out, HFS.out] at this
          simpa only [List.length_append, List.length_cons, List.length_nil] using this
        have HWa := veil (HWr.out.below ((Below.refl _ _).alloc (Nat.le_refl _) (.cells #[.string x.params[j].name, .int .i64 kd, .string fo, .string na, .slice vb1 vb2 vb3] 63)))
        have HEa := veil (HEr.out.alloc (by omega) (.cells #[.string x.params[j].name, .int .i64 kd, .string fo, .string na, .slice vb1 vb2 vb3] 63))
        have HNew2 := veil (heap_alloc_new wr (.cells #[.string x.params[j].name, .int .i64 kd, .string fo, .string na, .slice vb1 vb2 vb3] 63))
        have hnb : wr.heap.size ≠ b := by omega
        clear c0 c1 c2 c3 c4 hcs hrow hty hfd HWr HEr hwent HPR HFD
        generalize x.params[j] = pj at *
        go_wp2_with fail
        refine (comma_any B b j _ _ HWa.out ?_).mono ?_
        · intro hk0
          have h1 := HLE'.out
          have h2 := hlen
          rw [if_neg hk0] at h1
          simp only [List.length_cons, List.length_nil] at h1
          simp only [List.length_append, List.length_cons, List.length_nil]
          omega
        rintro e w2 ⟨rfl, q1, q2⟩
        have HW2 := veil q1
        have HE2 := veil (HEa.out.trans q2)
        have HQ2 := veil (fun (W : World) (h : Went B b w2 W) (o : Nat) => (q2.trans h).cell HNew2.out hnb (by decide) o)
        have e0 : w2.cell? ⟨wr.heap.size, 0, none⟩ = some (.string pj.name) := q2.cell HNew2.out hnb (by decide) 0
        clear q1 q2 HWa HEa d0 d1 d2 d3 d4
        go_wp2_with fail
        refine (write_new B b _ [pj.name, ⟨#[58, 32]⟩] w2 _ _ _ (by simp) rfl rfl (pj.name.data.toList ++ [58, 32]) HW2.out (by simp) (by simp [joined]) ?_).mono ?_
        · have h1 := HLE'.out
          have h2 := hlen
          simp only [List.length_append, List.length_cons, List.length_nil]
          omega
        rintro e w3 ⟨rfl, q1, q2⟩
        have HW3 := veil q1
        have HE3 := veil (HE2.out.trans q2)
        have e1 : w3.cell? ⟨wr.heap.size, 1, none⟩ = some (.int .i64 kd) := HQ2.out w3 q2 1
        have e2 : w3.cell? ⟨wr.heap.size, 2, none⟩ = some (.string fo) := HQ2.out w3 q2 2
        have e3 : w3.cell? ⟨wr.heap.size, 3, none⟩ = some (.string na) := HQ2.out w3 q2 3
        have e4 : w3.cell? ⟨wr.heap.size, 4, none⟩ = some (.slice vb1 vb2 vb3) := HQ2.out w3 q2 4
        clear q1 q2 HQ2 e0 HW2 HE2
        go_wp2_with fail
        refine (typ_any 10 1 (by omega) S B b pj.is _ _ w3 hS ⟨_, _, _, _, rfl, HC.out.keep (Keeps.below (HB.out.trans HE3.out).below hS)⟩ HTy.out HW3.out ?_).mono ?_
        · have h1 := HLE'.out
          have h2 := hlen
          simp only [List.length_append, List.length_cons, List.length_nil]
          omega
        rintro e w4 ⟨rfl, q1, q2⟩
        have HW4 : Hid (Wrote B b ((l ++ ([102, 117, 110, 99, 32] ++ x.name.data.toList) ++ ([60] ++ (x.var.data.toList ++ [62])) ++ [40]) ++ fdTo x.params (j + 1)) w4) := by
          show Wrote _ _ _ _
          rw [HST.out, HFS.out]
          simpa [List.append_assoc] using q1
        have HE4 := veil (HE3.out.trans q2)
        clear q1 q2 HW3 HE3 e1 e2 e3 e4
        go_wp2_with fail
        exact ⟨⟨j + 1, by omega, by go_num, HW4.out, HE4.out⟩, by simp [intOf]; omega⟩
      · have hkl : j = x.params.length := by omega
        subst hkl
        clear HPR HFD
        have HQ := veil (fun (W : World) (h : Went B b (w.alloc (.cells #[.string x.name, .string x.var, .slice vp1 x.params.length vp3, .int .i64 k, .string f, .string n, .slice va1 va2 va3, .int .i64 k', .int .i64 n', .string f', .string s', .slice ve1 ve2 ve3] 54)) W) (o : Nat) => h.cell HNew.out hwb (by decide) o)
        go_wp2_with fail
        refine (write_new B b _ [⟨#[41, 58, 32]⟩] wr _ _ _ (by simp) rfl rfl [41, 58, 32] HWr.out (by decide) rfl (by simp only [List.length_append, List.length_cons, List.length_nil]; omega)).mono ?_
        rintro e w2 ⟨rfl, q1, q2⟩
        have HW2 := veil q1
        have HE2 := veil (HEr.out.trans q2)
        clear q1 q2 HWr HEr
        have e3 : w2.cell? ⟨w.heap.size, 3, none⟩ = some (.int .i64 k) := HQ.out w2 HE2.out 3
        have e4 : w2.cell? ⟨w.heap.size, 4, none⟩ = some (.string f) := HQ.out w2 HE2.out 4
        have e5 : w2.cell? ⟨w.heap.size, 5, none⟩ = some (.string n) := HQ.out w2 HE2.out 5
        have e6 : w2.cell? ⟨w.heap.size, 6, none⟩ = some (.slice va1 va2 va3) := HQ.out w2 HE2.out 6
        go_wp2_with fail
        refine (typ_any 10 1 (by omega) S B b x.result _ _ w2 hS ⟨_, _, _, _, rfl, HCT.out.keep (Keeps.below (HB.out.trans HE2.out).below hS)⟩ hres HW2.out (by simp only [List.length_append, List.length_cons, List.length_nil]; omega)).mono ?_
        rintro e w3 ⟨rfl, q1, q2⟩
        have HW3 := veil q1
        have HE3 := veil (HE2.out.trans q2)
        clear q1 q2 HW2 HE2 e3 e4 e5 e6
        go_wp2_with fail
        refine (write_new B b _ [⟨#[32, 61, 32]⟩] w3 _ _ _ (by simp) rfl rfl [32, 61, 32] HW3.out (by decide) rfl (by simp only [List.length_append, List.length_cons, List.length_nil]; omega)).mono ?_
        rintro e w4 ⟨rfl, q1, q2⟩
        have HW4 := veil q1
        have HE4 := veil (HE3.out.trans q2)
        clear q1 q2 HW3 HE3
        have e3 : w4.cell? ⟨w.heap.size, 7, none⟩ = some (.int .i64 k') := HQ.out w4 HE4.out 7
        have e4 : w4.cell? ⟨w.heap.size, 8, none⟩ = some (.int .i64 n') := HQ.out w4 HE4.out 8
        have e5 : w4.cell? ⟨w.heap.size, 9, none⟩ = some (.string f') := HQ.out w4 HE4.out 9
        have e6 : w4.cell? ⟨w.heap.size, 10, none⟩ = some (.string s') := HQ.out w4 HE4.out 10
        have e7 : w4.cell? ⟨w.heap.size, 11, none⟩ = some (.slice ve1 ve2 ve3) := HQ.out w4 HE4.out 11
        go_wp2_with fail
        refine (expr_any 10 1 (by omega) S B b x.body _ _ w4 hS ⟨_, _, _, _, _, rfl, HCE.out.keep (Keeps.below (HB.out.trans HE4.out).below hS)⟩ hbody HW4.out (HTab.out.keep (HB.out.trans HE4.out).below) (by simp only [List.length_append, List.length_cons, List.length_nil]; omega)).mono ?_
        rintro e w5 ⟨rfl, q1, q2⟩
        go_wp2_with fail
        go_end0
        exact ⟨rfl, by simpa [List.append_assoc] using q1, (HB.out.trans HE4.out).trans q2⟩
  · have hvs : varShown x.var = [] := if_pos (by rw [← HVN.out, hv0])
    rw [fuShown, hvs] at hlen ⊢
    simp only [List.length_append, List.length_cons, List.length_nil, List.nil_append] at hlen
    clear hvs HVN
    go_enter Tryz.func26, Tryz.ntmps26
    go_wp2_with fail
    refine (write_new B b l [⟨#[102, 117, 110, 99, 32]⟩, x.name] _ _ _ _ (by simp) rfl rfl ([102, 117, 110, 99, 32] ++ x.name.data.toList) HW.out (by simp) (by simp [joined]) (by simp only [List.length_append, List.length_cons, List.length_nil]; omega)).mono ?_
    rintro e w1 ⟨rfl, q1, q2⟩
    have HW1 := veil q1
    have HE1 := veil q2
    have e1 : w1.cell? ⟨w.heap.size, 1, none⟩ = some (.string x.var) := q2.cell HNew.out hwb (by decide) 1
    clear q1 q2 HW
    go_wp2_with fail
    refine (write_new B b _ [⟨#[40]⟩] w1 _ _ _ (by simp) rfl rfl [40] HW1.out (by decide) rfl (by simp only [List.length_append, List.length_cons, List.length_nil]; omega)).mono ?_
    rintro e w3 ⟨rfl, q1, q2⟩
    have HWs := veil q1
    have HEs := veil (HE1.out.trans q2)
    have e2 : w3.cell? ⟨w.heap.size, 2, none⟩ = some (.slice vp1 x.params.length vp3) := HEs.out.cell HNew.out hwb (by decide) 2
    clear q1 q2 HW1 HE1 e1
    go_wp2_with fail
    go_loopw [25] (fun i wr => ∃ j : Nat, j ≤ x.params.length ∧ i = .int .i64 j ∧ Wrote B b ((l ++ ([102, 117, 110, 99, 32] ++ x.name.data.toList) ++ [40]) ++ fdTo x.params j) wr ∧ Went B b (w.alloc (.cells #[.string x.name, .string x.var, .slice vp1 x.params.length vp3, .int .i64 k, .string f, .string n, .slice va1 va2 va3, .int .i64 k', .int .i64 n', .string f', .string s', .slice ve1 ve2 ve3] 54)) wr) (fun i _ => x.params.length - (intOf i).toNat)
    case atStart => exact ⟨0, Nat.zero_le _, rfl, by simpa [fdTo] using HWs.out, HEs.out⟩
    case round =>
      clear HWs HEs
      obtain ⟨j, hj, rfl, hwr, hwe⟩ := hrel
      have HWr := veil hwr
      have HEr := veil hwe
      have hltr := builder_lt hwr
      clear hwr hwe
      by_cases hltk : j < x.params.length
      · rcases HPR.out with h0 | ⟨bb, off, rfl, hb, hrow⟩
        · omega
        have hbw := hS bb hb
        obtain ⟨⟨c0, hfs⟩, hty⟩ := hrow.get j hltk
        obtain ⟨kd, fo, na, va, c1, c2, c3, c4, hcs⟩ := tyAt_cells.1 hty
        obtain ⟨vb1, vb2, vb3, rfl⟩ := hcs.slice
        rw [Nat.add_assoc] at c2 c3 c4
        have hwent := HB.out.trans HEr.out
        have d0 := (cell_in hwent hbw (off + j * 5)).trans c0
        have d1 := (cell_in hwent hbw (off + j * 5 + 1)).trans c1
        have d2 := (cell_in hwent hbw (off + j * 5 + 2)).trans c2
        have d3 := (cell_in hwent hbw (off + j * 5 + 3)).trans c3
        have d4 := (cell_in hwent hbw (off + j * 5 + 4)).trans c4
        have HC := veil hcs
        have hfd := HFD.out j hltk
        have HTy : Hid (tyFault x.params[j].is 1 = 0) := by
          show _ = _
          unfold fdFault at hfd
          split at hfd
          · exact hfd
          · omega
        have HST : Hid (fdTo x.params (j + 1) = fdTo x.params j ++ ((if j = 0 then [] else [44, 32]) ++ fdShown x.params[j])) := by show _ = _; rw [fdTo, List.getElem?_eq_getElem hltk]; rfl
        have HFS : Hid (fdShown x.params[j] = x.params[j].name.data.toList ++ ([58, 32] ++ tyShown x.params[j].is)) := rfl
        have HLE' : Hid ((fdTo x.params j).length + ((if j = 0 then [] else [44, 32] : List UInt8).length + (x.params[j].name.data.toList.length + (2 + (tyShown x.params[j].is).length))) ≤ (fdTo x.params x.params.length).length) := by
          show _ ≤ _
          have := fdTo_le x.params (j + 1) x.params.length hltk
          rw [HST.out, HFS.out] at this
          simpa only [List.length_append, List.length_cons, List.length_nil] using this
        have HWa := veil (HWr.out.below ((Below.refl _ _).alloc (Nat.le_refl _) (.cells #[.string x.params[j].name, .int .i64 kd, .string fo, .string na, .slice vb1 vb2 vb3] 63)))
        have HEa := veil (HEr.out.alloc (by omega) (.cells #[.string x.params[j].name, .int .i64 kd, .string fo, .string na, .slice vb1 vb2 vb3] 63))
        have HNew2 := veil (heap_alloc_new wr (.cells #[.string x.params[j].name, .int .i64 kd, .string fo, .string na, .slice vb1 vb2 vb3] 63))
        have hnb : wr.heap.size ≠ b := by omega
        clear c0 c1 c2 c3 c4 hcs hrow hty hfd HWr HEr hwent HPR HFD
        generalize x.params[j] = pj at *
        go_wp2_with fail
        refine (comma_any B b j _ _ HWa.out ?_).mono ?_
        · intro hk0
          have h1 := HLE'.out
          have h2 := hlen
          rw [if_neg hk0] at h1
          simp only [List.length_cons, List.length_nil] at h1
          simp only [List.length_append, List.length_cons, List.length_nil]
          omega
        rintro e w2 ⟨rfl, q1, q2⟩
        have HW2 := veil q1
        have HE2 := veil (HEa.out.trans q2)
        have HQ2 := veil (fun (W : World) (h : Went B b w2 W) (o : Nat) => (q2.trans h).cell HNew2.out hnb (by decide) o)
        have e0 : w2.cell? ⟨wr.heap.size, 0, none⟩ = some (.string pj.name) := q2.cell HNew2.out hnb (by decide) 0
        clear q1 q2 HWa HEa d0 d1 d2 d3 d4
        go_wp2_with fail
        refine (write_new B b _ [pj.name, ⟨#[58, 32]⟩] w2 _ _ _ (by simp) rfl rfl (pj.name.data.toList ++ [58, 32]) HW2.out (by simp) (by simp [joined]) ?_).mono ?_
        · have h1 := HLE'.out
          have h2 := hlen
          simp only [List.length_append, List.length_cons, List.length_nil]
          omega
        rintro e w3 ⟨rfl, q1, q2⟩
        have HW3 := veil q1
        have HE3 := veil (HE2.out.trans q2)
        have e1 : w3.cell? ⟨wr.heap.size, 1, none⟩ = some (.int .i64 kd) := HQ2.out w3 q2 1
        have e2 : w3.cell? ⟨wr.heap.size, 2, none⟩ = some (.string fo) := HQ2.out w3 q2 2
        have e3 : w3.cell? ⟨wr.heap.size, 3, none⟩ = some (.string na) := HQ2.out w3 q2 3
        have e4 : w3.cell? ⟨wr.heap.size, 4, none⟩ = some (.slice vb1 vb2 vb3) := HQ2.out w3 q2 4
        clear q1 q2 HQ2 e0 HW2 HE2
        go_wp2_with fail
        refine (typ_any 10 1 (by omega) S B b pj.is _ _ w3 hS ⟨_, _, _, _, rfl, HC.out.keep (Keeps.below (HB.out.trans HE3.out).below hS)⟩ HTy.out HW3.out ?_).mono ?_
        · have h1 := HLE'.out
          have h2 := hlen
          simp only [List.length_append, List.length_cons, List.length_nil]
          omega
        rintro e w4 ⟨rfl, q1, q2⟩
        have HW4 : Hid (Wrote B b ((l ++ ([102, 117, 110, 99, 32] ++ x.name.data.toList) ++ [40]) ++ fdTo x.params (j + 1)) w4) := by
          show Wrote _ _ _ _
          rw [HST.out, HFS.out]
          simpa [List.append_assoc] using q1
        have HE4 := veil (HE3.out.trans q2)
        clear q1 q2 HW3 HE3 e1 e2 e3 e4
        go_wp2_with fail
        exact ⟨⟨j + 1, by omega, by go_num, HW4.out, HE4.out⟩, by simp [intOf]; omega⟩
      · have hkl : j = x.params.length := by omega
        subst hkl
        clear HPR HFD
        have HQ := veil (fun (W : World) (h : Went B b (w.alloc (.cells #[.string x.name, .string x.var, .slice vp1 x.params.length vp3, .int .i64 k, .string f, .string n, .slice va1 va2 va3, .int .i64 k', .int .i64 n', .string f', .string s', .slice ve1 ve2 ve3] 54)) W) (o : Nat) => h.cell HNew.out hwb (by decide) o)
        go_wp2_with fail
        refine (write_new B b _ [⟨#[41, 58, 32]⟩] wr _ _ _ (by simp) rfl rfl [41, 58, 32] HWr.out (by decide) rfl (by simp only [List.length_append, List.length_cons, List.length_nil]; omega)).mono ?_
        rintro e w2 ⟨rfl, q1, q2⟩
        have HW2 := veil q1
        have HE2 := veil (HEr.out.trans q2)
        clear q1 q2 HWr HEr
        have e3 : w2.cell? ⟨w.heap.size, 3, none⟩ = some (.int .i64 k) := HQ.out w2 HE2.out 3
        have e4 : w2.cell? ⟨w.heap.size, 4, none⟩ = some (.string f) := HQ.out w2 HE2.out 4
        have e5 : w2.cell? ⟨w.heap.size, 5, none⟩ = some (.string n) := HQ.out w2 HE2.out 5
        have e6 : w2.cell? ⟨w.heap.size, 6, none⟩ = some (.slice va1 va2 va3) := HQ.out w2 HE2.out 6
        go_wp2_with fail
        refine (typ_any 10 1 (by omega) S B b x.result _ _ w2 hS ⟨_, _, _, _, rfl, HCT.out.keep (Keeps.below (HB.out.trans HE2.out).below hS)⟩ hres HW2.out (by simp only [List.length_append, List.length_cons, List.length_nil]; omega)).mono ?_
        rintro e w3 ⟨rfl, q1, q2⟩
        have HW3 := veil q1
        have HE3 := veil (HE2.out.trans q2)
        clear q1 q2 HW2 HE2 e3 e4 e5 e6
        go_wp2_with fail
        refine (write_new B b _ [⟨#[32, 61, 32]⟩] w3 _ _ _ (by simp) rfl rfl [32, 61, 32] HW3.out (by decide) rfl (by simp only [List.length_append, List.length_cons, List.length_nil]; omega)).mono ?_
        rintro e w4 ⟨rfl, q1, q2⟩
        have HW4 := veil q1
        have HE4 := veil (HE3.out.trans q2)
        clear q1 q2 HW3 HE3
        have e3 : w4.cell? ⟨w.heap.size, 7, none⟩ = some (.int .i64 k') := HQ.out w4 HE4.out 7
        have e4 : w4.cell? ⟨w.heap.size, 8, none⟩ = some (.int .i64 n') := HQ.out w4 HE4.out 8
        have e5 : w4.cell? ⟨w.heap.size, 9, none⟩ = some (.string f') := HQ.out w4 HE4.out 9
        have e6 : w4.cell? ⟨w.heap.size, 10, none⟩ = some (.string s') := HQ.out w4 HE4.out 10
        have e7 : w4.cell? ⟨w.heap.size, 11, none⟩ = some (.slice ve1 ve2 ve3) := HQ.out w4 HE4.out 11
        go_wp2_with fail
        refine (expr_any 10 1 (by omega) S B b x.body _ _ w4 hS ⟨_, _, _, _, _, rfl, HCE.out.keep (Keeps.below (HB.out.trans HE4.out).below hS)⟩ hbody HW4.out (HTab.out.keep (HB.out.trans HE4.out).below) (by simp only [List.length_append, List.length_cons, List.length_nil]; omega)).mono ?_
        rintro e w5 ⟨rfl, q1, q2⟩
        go_wp2_with fail
        go_end0
        exact ⟨rfl, by simpa [List.append_assoc] using q1, (HB.out.trans HE4.out).trans q2⟩

end Go.Proofs.YtieoddnaknpmlabGreatDoor

/- What tree.Show answers, at every module: the fault's number, and its text where there is none. -/
namespace Go.Proofs.YtieoddnaknpmlabGreatDoor
open Go.RowKit
set_option maxRecDepth 100000

def moText (m : Mo) : ByteArray := if moFault m = 0 then textOf (moShown m) else ⟨#[]⟩

theorem lines_le {α : Type} (g : α → List UInt8) (l : List α) : ∀ k j, k ≤ j → (linesTo g l k).length ≤ (linesTo g l j).length
  | k, 0, h => by have : k = 0 := by omega
                  subst this; exact Nat.le_refl _
  | k, j + 1, h => by
    by_cases e : k = j + 1
    · subst e; exact Nat.le_refl _
    · have := lines_le g l k j (by omega)
      simp only [linesTo, List.length_append]; omega

theorem lines_succ {α : Type} (g : α → List UInt8) (l : List α) (k : Nat) (h : k < l.length) : linesTo g l (k + 1) = linesTo g l k ++ g l[k] := by
  rw [linesTo, List.getElem?_eq_getElem h]; rfl

theorem use_line {s : ByteArray} (h : identOk s = true) : (useLine s).length ≤ 200000000500 := by
  have := ident_size h
  simp only [useLine, List.length_append, List.length_cons, List.length_nil]; omega
theorem type_line {f : Fd} (h : fdFault f = 0) : (typeLine f).length ≤ 200000000500 := by
  have h1 : identOk f.name = true := by
    unfold fdFault at h
    split at h
    · assumption
    · omega
  have h2 : tyFault f.is 1 = 0 := by
    unfold fdFault at h
    rwa [if_pos h1] at h
  have a1 := ident_size h1
  have a2 := ty_size 10 f.is 1 (by omega) h2
  simp only [typeLine, List.length_append, List.length_cons, List.length_nil]; omega

/-- what may be, and is no longer than memory allows, has at most 24 lines, and is not too long to be written. -/
theorem mo_size {m : Mo} (h : moFault m = 0) (hs : m.uses.length + m.types.length + m.funcs.length < 4611686018427387904) :
    (linesTo useLine m.uses m.uses.length).length + ((linesTo typeLine m.types m.types.length).length + (linesTo funLine m.funcs m.funcs.length).length) ≤ 24 * 200000000500 := by
  obtain ⟨h0, h1, h2, h3⟩ := mo_ok h
  have hsum : m.uses.length + m.types.length + m.funcs.length ≤ 24 := by
    unfold wrap64 at h0
    omega
  have a1 := lines_size useLine 200000000500 m.uses (fun j hj => use_line (h1 j hj)) _ (Nat.le_refl _)
  have a2 := lines_size typeLine 200000000500 m.types (fun j hj => type_line (h2 j hj)) _ (Nat.le_refl _)
  have a3 := lines_size funLine 200000000500 m.funcs (fun j hj => fu_size (h3 j hj)) _ (Nat.le_refl _)
  have e : (m.uses.length + m.types.length + m.funcs.length) * 200000000500 ≤ 24 * 200000000500 := Nat.mul_le_mul_right _ hsum
  rw [Nat.add_mul, Nat.add_mul] at e
  omega

theorem printer_new (w : World) (B : Nat) (hB : B ≤ w.heap.size) : Wrote B w.heap.size [] (w.alloc (.cells #[.pointer none, .slice none 0 0] 70)) := by
  refine Or.inl ⟨hB, .slice none 0 0, ?_, World.ownsRow_nil _ _ _ _, by simp [Value.ownBlock]⟩
  exact heap_alloc_new w _

set_option maxHeartbeats 8000000 in
set_option maxRecDepth 100000 in
theorem treeShow_any (S : Nat → Prop) (x : Mo) (v : Value) (w : World) (hS : ∀ b, S b → b < w.heap.size) (hx : MoIs S w x v) (ht : TabIn w.heap.size w) (hs : x.uses.length + x.types.length + x.funcs.length < 4611686018427387904) :
    Calls Tryz.prog 9 #[v] w fun e w' => e = .returned (.tuple #[.string (moText x), .int .i64 (moFault x)]) ∧ Below w.heap.size w w' := by
  have HX := veil hx
  obtain ⟨vu, vt, vf, rfl, hu, hty, hf⟩ := hx
  obtain ⟨u1, u3, rfl, ⟨hul, _⟩, hur⟩ := hu
  obtain ⟨t1, t3, rfl, ⟨htl, _⟩, htr⟩ := hty
  obtain ⟨f1, f3, rfl, ⟨hfl, _⟩, hfr⟩ := hf
  have HU := veil hur
  have HTy := veil htr
  have HFu := veil hfr
  have HTab := veil ht
  clear hur htr hfr ht
  have HB : Hid (Below w.heap.size w (w.alloc (.cells #[.slice u1 x.uses.length u3, .slice t1 x.types.length t3, .slice f1 x.funcs.length f3] 26))) := (Below.refl _ _).alloc (Nat.le_refl _) _
  have HCk := veil (treeCheck_any S x (.agg #[.slice u1 x.uses.length u3, .slice t1 x.types.length t3, .slice f1 x.funcs.length f3]) (w.alloc (.cells #[.slice u1 x.uses.length u3, .slice t1 x.types.length t3, .slice f1 x.funcs.length f3] 26)) (fdIs_first hS HB.out) (HX.out.keep (Keeps.below HB.out hS)))
  by_cases h0 : moFault x = 0
  rotate_left
  · have hz' : (moFault x != 0) = true := bne_iff_ne.2 h0
    have HTx : Hid (moText x = ⟨#[]⟩) := if_neg h0
    clear h0 hul htl hfl hs
    go_enter Tryz.func9, Tryz.ntmps9
    go_wp2_with fail
    refine HCk.out.mono ?_
    rintro e w1 ⟨rfl, hb1⟩
    go_wp2_with fail
    go_ret2
    exact ⟨by rw [HTx.out]; rfl, HB.out.trans (hb1.mono (by simp))⟩
  have hz' : (moFault x != 0) = false := by rw [h0]; rfl
  have HTx : Hid (moText x = textOf (moShown x)) := if_pos h0
  have hsz := mo_size h0 hs
  obtain ⟨_, hg1, hg2, hg3⟩ := mo_ok h0
  have HG1 := veil hg1
  have HG2 := veil hg2
  have HG3 := veil hg3
  clear hg1 hg2 hg3
  unfold maxLen at hul htl hfl
  go_enter Tryz.func9, Tryz.ntmps9
  go_wp2_with fail
  refine HCk.out.mono ?_
  rintro e w1 ⟨rfl, hb1⟩
  rw [h0]
  have HB1 := veil (HB.out.trans (hb1.mono (by simp)))
  have hs1 : w.heap.size + 1 ≤ w1.heap.size := by have := hb1.size; simpa using this
  have hbox1 : w1.heap[w.heap.size]? = some (.cells #[.slice u1 x.uses.length u3, .slice t1 x.types.length t3, .slice f1 x.funcs.length f3] 26) := (hb1.block _ (by simp)).trans (heap_alloc_new w _)
  have HBox : Hid ((w1.alloc (.cells #[.pointer none, .slice none 0 0] 70)).heap[w.heap.size]? = some (.cells #[.slice u1 x.uses.length u3, .slice t1 x.types.length t3, .slice f1 x.funcs.length f3] 26)) := (Below.heap_alloc _ _ _ (by omega)).trans hbox1
  have HNew := veil (printer_new w1 w.heap.size (by omega))
  have HP0 := veil (HB1.out.alloc (by omega) (.cells #[.pointer none, .slice none 0 0] 70))
  have hpw : w.heap.size ≠ w1.heap.size := by omega
  have hlw : w.heap.size < w1.heap.size := by omega
  have c0 : w1.cell? ⟨w.heap.size, 0, none⟩ = some (.slice u1 x.uses.length u3) := by rw [Lib.cell_of_heap hbox1]; rfl
  have HF0 := veil h0
  clear hb1 hbox1 HCk h0
  go_wp2_with fail
  go_loopw [20] (fun i wr => ∃ j : Nat, j ≤ x.uses.length ∧ i = .int .i64 j ∧ Wrote w.heap.size w1.heap.size (linesTo useLine x.uses j) wr ∧ Went w.heap.size w1.heap.size (w1.alloc (.cells #[.pointer none, .slice none 0 0] 70)) wr) (fun i _ => x.uses.length - (intOf i).toNat)
  case atStart => exact ⟨0, Nat.zero_le _, rfl, HNew.out, Went.refl _ _ _⟩
  case round =>
    clear HNew c0
    obtain ⟨j, hj, rfl, hwr, hwe⟩ := hrel
    have HWr := veil hwr
    have HEr := veil hwe
    clear hwr hwe
    by_cases hlt : j < x.uses.length
    · rcases HU.out with hn0 | ⟨bb, off, rfl, hb, hrow⟩
      · omega
      have hbw := hS bb hb
      obtain ⟨c0, hfs⟩ := hrow.get j hlt
      rw [Nat.mul_one] at c0
      have d0 := ((HP0.out.trans HEr.out.below).cell (p := ⟨bb, off + j, none⟩) hbw).trans c0
      have HST := veil (lines_succ useLine x.uses j hlt)
      have HLE := veil (lines_le useLine x.uses (j + 1) x.uses.length hlt)
      clear c0 hrow HU
      generalize x.uses[j] = pj at *
      have HUL : Hid (useLine pj = [117, 115, 101, 32] ++ (pj.data.toList ++ [10])) := rfl
      go_wp2_with fail
      refine (write_new w.heap.size w1.heap.size _ [⟨#[117, 115, 101, 32]⟩, pj, ⟨#[10]⟩] wr _ _ _ (by simp) rfl rfl (useLine pj) HWr.out (by simp) (by simp [joined, HUL.out]) ?_).mono ?_
      · have h1 := HLE.out
        rw [HST.out, List.length_append] at h1
        omega
      rintro e w2 ⟨rfl, q1, q2⟩
      rw [← HST.out] at q1
      have HW2 := veil q1
      have HE2 := veil (HEr.out.trans q2)
      clear q1 q2
      go_wp2_with fail
      exact ⟨⟨j + 1, by omega, by go_num, HW2.out, HE2.out⟩, by simp [intOf]; omega⟩
    · have hje : j = x.uses.length := by omega
      subst hje
      have c1 : wr.cell? ⟨w.heap.size, 1, none⟩ = some (.slice t1 x.types.length t3) := HEr.out.cell HBox.out hpw (by decide) 1
      clear HU
      go_wp2_with fail
      go_loopw [31] (fun i wr => ∃ j : Nat, j ≤ x.types.length ∧ i = .int .i64 j ∧ Wrote w.heap.size w1.heap.size (linesTo useLine x.uses x.uses.length ++ linesTo typeLine x.types j) wr ∧ Went w.heap.size w1.heap.size (w1.alloc (.cells #[.pointer none, .slice none 0 0] 70)) wr) (fun i _ => x.types.length - (intOf i).toNat)
      case atStart => exact ⟨0, Nat.zero_le _, rfl, by simpa [linesTo] using HWr.out, HEr.out⟩
      case round =>
        clear c1 hj hlt HWr HEr
        obtain ⟨j, hj, rfl, hwr, hwe⟩ := hrel
        have HWr := veil hwr
        have HEr := veil hwe
        have hltr := builder_lt hwr
        clear hwr hwe
        by_cases hlt : j < x.types.length
        · rcases HTy.out with hn0 | ⟨bb, off, rfl, hb, hrow⟩
          · omega
          have hbw := hS bb hb
          obtain ⟨⟨c0, hfs⟩, hty⟩ := hrow.get j hlt
          obtain ⟨kd, fo, na, va, c1, c2, c3, c4, hcs⟩ := tyAt_cells.1 hty
          obtain ⟨vb1, vb2, vb3, rfl⟩ := hcs.slice
          rw [Nat.add_assoc] at c2 c3 c4
          have hbel := HP0.out.trans HEr.out.below
          have d0 := (hbel.cell (p := ⟨bb, off + j * 5, none⟩) hbw).trans c0
          have d1 := (hbel.cell (p := ⟨bb, off + j * 5 + 1, none⟩) hbw).trans c1
          have d2 := (hbel.cell (p := ⟨bb, off + j * 5 + 2, none⟩) hbw).trans c2
          have d3 := (hbel.cell (p := ⟨bb, off + j * 5 + 3, none⟩) hbw).trans c3
          have d4 := (hbel.cell (p := ⟨bb, off + j * 5 + 4, none⟩) hbw).trans c4
          have HC := veil hcs
          have hfd := HG2.out j hlt
          have HTyF : Hid (tyFault x.types[j].is 1 = 0) := by
            show _ = _
            unfold fdFault at hfd
            split at hfd
            · exact hfd
            · omega
          have HST := veil (lines_succ typeLine x.types j hlt)
          have HLE := veil (lines_le typeLine x.types (j + 1) x.types.length hlt)
          have HWa := veil (HWr.out.below ((Below.refl _ _).alloc (Nat.le_refl _) (.cells #[.string x.types[j].name, .int .i64 kd, .string fo, .string na, .slice vb1 vb2 vb3] 63)))
          have HEa := veil (HEr.out.alloc (by omega) (.cells #[.string x.types[j].name, .int .i64 kd, .string fo, .string na, .slice vb1 vb2 vb3] 63))
          have HNew2 := veil (heap_alloc_new wr (.cells #[.string x.types[j].name, .int .i64 kd, .string fo, .string na, .slice vb1 vb2 vb3] 63))
          have hnb : wr.heap.size ≠ w1.heap.size := by omega
          clear c0 c1 c2 c3 c4 hcs hrow hty hfd hbel HWr HEr HTy HG2
          generalize x.types[j] = pj at *
          have HTL : Hid (typeLine pj = [116, 121, 112, 101, 32] ++ (pj.name.data.toList ++ ([32, 61, 32] ++ (tyShown pj.is ++ [10])))) := rfl
          have HLn : Hid ((linesTo typeLine x.types j).length + (5 + (pj.name.data.toList.length + (3 + ((tyShown pj.is).length + 1)))) ≤ (linesTo typeLine x.types x.types.length).length) := by
            show _ ≤ _
            have := HLE.out
            rw [HST.out, HTL.out] at this
            simpa only [List.length_append, List.length_cons, List.length_nil] using this
          go_wp2_with fail
          refine (write_new w.heap.size w1.heap.size _ [⟨#[116, 121, 112, 101, 32]⟩, pj.name, ⟨#[32, 61, 32]⟩] _ _ _ _ (by simp) rfl rfl ([116, 121, 112, 101, 32] ++ (pj.name.data.toList ++ [32, 61, 32])) HWa.out (by simp) (by simp [joined]) ?_).mono ?_
          · have h1 := HLn.out
            simp only [List.length_append, List.length_cons, List.length_nil]
            omega
          rintro e w2 ⟨rfl, q1, q2⟩
          have HW2 := veil q1
          have HE2 := veil (HEa.out.trans q2)
          have e1 : w2.cell? ⟨wr.heap.size, 1, none⟩ = some (.int .i64 kd) := q2.cell HNew2.out hnb (by decide) 1
          have e2 : w2.cell? ⟨wr.heap.size, 2, none⟩ = some (.string fo) := q2.cell HNew2.out hnb (by decide) 2
          have e3 : w2.cell? ⟨wr.heap.size, 3, none⟩ = some (.string na) := q2.cell HNew2.out hnb (by decide) 3
          have e4 : w2.cell? ⟨wr.heap.size, 4, none⟩ = some (.slice vb1 vb2 vb3) := q2.cell HNew2.out hnb (by decide) 4
          clear q1 q2 HWa HEa d0 d1 d2 d3 d4
          go_wp2_with fail
          refine (typ_any 10 1 (by omega) S w.heap.size w1.heap.size pj.is _ _ w2 hS ⟨_, _, _, _, rfl, HC.out.keep (Keeps.below (HP0.out.trans HE2.out.below) hS)⟩ HTyF.out HW2.out ?_).mono ?_
          · have h1 := HLn.out
            simp only [List.length_append, List.length_cons, List.length_nil]
            omega
          rintro e w3 ⟨rfl, q1, q2⟩
          have HW3 := veil q1
          have HE3 := veil (HE2.out.trans q2)
          clear q1 q2 HW2 HE2 e1 e2 e3 e4
          go_wp2_with fail
          refine (write_new w.heap.size w1.heap.size _ [⟨#[10]⟩] w3 _ _ _ (by simp) rfl rfl [10] HW3.out (by decide) rfl ?_).mono ?_
          · have h1 := HLn.out
            simp only [List.length_append, List.length_cons, List.length_nil]
            omega
          rintro e w4 ⟨rfl, q1, q2⟩
          have HW4 : Hid (Wrote w.heap.size w1.heap.size (linesTo useLine x.uses x.uses.length ++ linesTo typeLine x.types (j + 1)) w4) := by
            show Wrote _ _ _ _
            rw [HST.out, HTL.out]
            simpa [List.append_assoc] using q1
          have HE4 := veil (HE3.out.trans q2)
          clear q1 q2 HW3 HE3
          go_wp2_with fail
          exact ⟨⟨j + 1, by omega, by go_num, HW4.out, HE4.out⟩, by simp [intOf]; omega⟩
        · have hje : j = x.types.length := by omega
          subst hje
          have c2 : wr.cell? ⟨w.heap.size, 2, none⟩ = some (.slice f1 x.funcs.length f3) := HEr.out.cell HBox.out hpw (by decide) 2
          clear HTy HG2
          go_wp2_with fail
          go_loopw [48] (fun i wr => ∃ j : Nat, j ≤ x.funcs.length ∧ i = .int .i64 j ∧ Wrote w.heap.size w1.heap.size (linesTo useLine x.uses x.uses.length ++ linesTo typeLine x.types x.types.length ++ linesTo funLine x.funcs j) wr ∧ Went w.heap.size w1.heap.size (w1.alloc (.cells #[.pointer none, .slice none 0 0] 70)) wr) (fun i _ => x.funcs.length - (intOf i).toNat)
          case atStart => exact ⟨0, Nat.zero_le _, rfl, by simpa [linesTo] using HWr.out, HEr.out⟩
          case round =>
            clear c2 hj hlt HWr HEr hltr
            obtain ⟨j, hj, rfl, hwr, hwe⟩ := hrel
            have HWr := veil hwr
            have HEr := veil hwe
            have hltr := builder_lt hwr
            clear hwr hwe
            by_cases hlt : j < x.funcs.length
            · rcases HFu.out with hn0 | ⟨bb, off, rfl, hb, hrow⟩
              · omega
              have hbw := hS bb hb
              obtain ⟨⟨c0, hsz0⟩, ⟨c1, hsz1⟩, ⟨vp, c2, hps⟩, hty, hex⟩ := hrow.get j hlt
              obtain ⟨kd, fo, na, va, c3, c4, c5, c6, hcs⟩ := tyAt_cells.1 hty
              obtain ⟨ke, ne, fe, se, ve, c7, c8, c9, c10, c11, hce⟩ := exAt_cells.1 hex
              obtain ⟨va1, va2, va3, rfl⟩ := hcs.slice
              obtain ⟨vp1, vp2, vp3, rfl⟩ := hps.slice
              obtain ⟨ve1, ve2, ve3, rfl⟩ := hce.slice
              rw [Nat.add_assoc] at c4 c5 c6 c8 c9 c10 c11
              have hbel := HP0.out.trans HEr.out.below
              have d0 := (hbel.cell (p := ⟨bb, off + j * 12, none⟩) hbw).trans c0
              have d1 := (hbel.cell (p := ⟨bb, off + j * 12 + 1, none⟩) hbw).trans c1
              have d2 := (hbel.cell (p := ⟨bb, off + j * 12 + 2, none⟩) hbw).trans c2
              have d3 := (hbel.cell (p := ⟨bb, off + j * 12 + 3, none⟩) hbw).trans c3
              have d4 := (hbel.cell (p := ⟨bb, off + j * 12 + 4, none⟩) hbw).trans c4
              have d5 := (hbel.cell (p := ⟨bb, off + j * 12 + 5, none⟩) hbw).trans c5
              have d6 := (hbel.cell (p := ⟨bb, off + j * 12 + 6, none⟩) hbw).trans c6
              have d7 := (hbel.cell (p := ⟨bb, off + j * 12 + 7, none⟩) hbw).trans c7
              have d8 := (hbel.cell (p := ⟨bb, off + j * 12 + 8, none⟩) hbw).trans c8
              have d9 := (hbel.cell (p := ⟨bb, off + j * 12 + 9, none⟩) hbw).trans c9
              have d10 := (hbel.cell (p := ⟨bb, off + j * 12 + 10, none⟩) hbw).trans c10
              have d11 := (hbel.cell (p := ⟨bb, off + j * 12 + 11, none⟩) hbw).trans c11
              have hkp : Keeps S S w (wr.alloc (.cells #[.string x.funcs[j].name, .string x.funcs[j].var, .slice vp1 vp2 vp3, .int .i64 kd, .string fo, .string na, .slice va1 va2 va3, .int .i64 ke, .int .i64 ne, .string fe, .string se, .slice ve1 ve2 ve3] 54)) := Keeps.below (hbel.alloc (by omega) _) hS
              have HFI : Hid (FuIs S (wr.alloc (.cells #[.string x.funcs[j].name, .string x.funcs[j].var, .slice vp1 vp2 vp3, .int .i64 kd, .string fo, .string na, .slice va1 va2 va3, .int .i64 ke, .int .i64 ne, .string fe, .string se, .slice ve1 ve2 ve3] 54)) x.funcs[j] (.agg #[.string x.funcs[j].name, .string x.funcs[j].var, .slice vp1 vp2 vp3, .int .i64 kd, .string fo, .string na, .slice va1 va2 va3, .int .i64 ke, .int .i64 ne, .string fe, .string se, .slice ve1 ve2 ve3])) := ⟨_, _, _, _, _, _, _, _, _, _, rfl, hsz0, hsz1, fdSl_keep hkp hps, hcs.keep hkp, hce.keep hkp⟩
              have hfu := HG3.out j hlt
              have HTb := veil (HTab.out.keep (hbel.alloc (by omega) (.cells #[.string x.funcs[j].name, .string x.funcs[j].var, .slice vp1 vp2 vp3, .int .i64 kd, .string fo, .string na, .slice va1 va2 va3, .int .i64 ke, .int .i64 ne, .string fe, .string se, .slice ve1 ve2 ve3] 54)))
              have HST := veil (lines_succ funLine x.funcs j hlt)
              have HLE := veil (lines_le funLine x.funcs (j + 1) x.funcs.length hlt)
              have HWa := veil (HWr.out.below ((Below.refl _ _).alloc (Nat.le_refl _) (.cells #[.string x.funcs[j].name, .string x.funcs[j].var, .slice vp1 vp2 vp3, .int .i64 kd, .string fo, .string na, .slice va1 va2 va3, .int .i64 ke, .int .i64 ne, .string fe, .string se, .slice ve1 ve2 ve3] 54)))
              have HEa := veil (HEr.out.alloc (by omega) (.cells #[.string x.funcs[j].name, .string x.funcs[j].var, .slice vp1 vp2 vp3, .int .i64 kd, .string fo, .string na, .slice va1 va2 va3, .int .i64 ke, .int .i64 ne, .string fe, .string se, .slice ve1 ve2 ve3] 54))
              clear c0 c1 c2 c3 c4 c5 c6 c7 c8 c9 c10 c11 hcs hrow hty hex hce hps hkp hbel HWr HEr HFu HG3
              generalize x.funcs[j] = pj at *
              have HTL : Hid (funLine pj = fuShown pj ++ [10]) := rfl
              have HLn : Hid ((linesTo funLine x.funcs j).length + ((fuShown pj).length + 1) ≤ (linesTo funLine x.funcs x.funcs.length).length) := by
                show _ ≤ _
                have := HLE.out
                rw [HST.out, HTL.out] at this
                simpa only [List.length_append, List.length_cons, List.length_nil] using this
              go_wp2_with fail
              refine (fun_any S w.heap.size w1.heap.size pj _ _ _ hS HFI.out hfu HWa.out HTb.out ?_).mono ?_
              · have h1 := HLn.out
                simp only [List.length_append]
                omega
              rintro e w2 ⟨rfl, q1, q2⟩
              have HW2 := veil q1
              have HE2 := veil (HEa.out.trans q2)
              clear q1 q2 HWa HEa HFI d0 d1 d2 d3 d4 d5 d6 d7 d8 d9 d10 d11
              go_wp2_with fail
              refine (write_new w.heap.size w1.heap.size _ [⟨#[10]⟩] w2 _ _ _ (by simp) rfl rfl [10] HW2.out (by decide) rfl ?_).mono ?_
              · have h1 := HLn.out
                simp only [List.length_append, List.length_cons, List.length_nil]
                omega
              rintro e w4 ⟨rfl, q1, q2⟩
              have HW4 : Hid (Wrote w.heap.size w1.heap.size (linesTo useLine x.uses x.uses.length ++ linesTo typeLine x.types x.types.length ++ linesTo funLine x.funcs (j + 1)) w4) := by
                show Wrote _ _ _ _
                rw [HST.out, HTL.out]
                simpa [List.append_assoc] using q1
              have HE4 := veil (HE2.out.trans q2)
              clear q1 q2 HW2 HE2
              go_wp2_with fail
              exact ⟨⟨j + 1, by omega, by go_num, HW4.out, HE4.out⟩, by simp [intOf]; omega⟩
            · have hje : j = x.funcs.length := by omega
              subst hje
              clear HFu HG3
              go_wp2_with fail
              refine (string_any w.heap.size w1.heap.size _ wr HWr.out).mono ?_
              rintro e w2 ⟨rfl, q1⟩
              go_wp2_with fail
              go_ret2
              refine ⟨?_, (HP0.out.trans HEr.out.below).trans q1⟩
              rw [HTx.out, HF0.out, moShown, ← List.append_assoc]
              rfl

end Go.Proofs.YtieoddnaknpmlabGreatDoor
