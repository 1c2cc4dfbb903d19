/- What the printer's args and expr write, at every expression that may be: its text. -/
import Derived.Test.YtaphjoggjfmbfabDoorShowTy
import Derived.Test.YtaphjoggjfmbfabDoorStrP
import Derived.Test.YtaphjoggjfmbfabDoorShelf
namespace Go.Proofs.YtaphjoggjfmbfabDoor
open Go.RowKit

/-- Go's own table of the powers of ten lies below B. -/
def TabIn (B : Nat) (w : World) : Prop := ∃ g, Tryd.prog.globalNamed "internal/strconv.uint64pow10" = some g ∧ g < B ∧ Lib.TabIs Tryd.prog w "internal/strconv.uint64pow10" .u64 Lib.pow10Tab

theorem TabIn.keep {B : Nat} {w w' : World} (h : TabIn B w) (hb : Below B w w') : TabIn B w' := by
  obtain ⟨g, hg, hgB, ht⟩ := h
  refine ⟨g, hg, hgB, ?_⟩
  unfold Lib.TabIs World.var? at ht ⊢
  rw [hg] at ht ⊢
  simp only [Option.bind_some] at ht ⊢
  rw [hb.block g hgB]
  exact ht

theorem below_grow (w : World) (k : Nat) (os : Array Obj) : Below w.heap.size w (Go.Sort.grow (w.drewN k) os) := by
  refine ⟨rfl, rfl, rfl, ?_, fun i hi => ?_⟩
  · show w.heap.size ≤ (w.heap ++ os).size
    simp
  · show (w.heap ++ os)[i]? = w.heap[i]?
    rw [Array.getElem?_append_left hi]

theorem itoa_any (n : Int) (hn : isIn n 0 999999 = true) (B : Nat) (w : World) (ht : TabIn B w) : Calls Tryd.prog 34 #[.int .i64 n] w fun e w' => e = .returned (.string (textOf (numShown n))) ∧ Below w.heap.size w w' := by
  obtain ⟨_, _, _, ht⟩ := ht
  have hb : 0 ≤ n ∧ n ≤ 999999 := by simpa [isIn] using hn
  refine (Tryd.strconv_Itoa n (by omega) (by omega) w ht).mono ?_
  rintro e w' ⟨rfl, k, os, rfl⟩
  refine ⟨?_, below_grow _ _ _⟩
  rw [Lib.itoa, if_neg (by omega)]
  rfl

theorem exTo_le (l : List Ex) : ∀ k j, k ≤ j → (exTo l k).length ≤ (exTo l j).length
  | k, 0, h => by have : k = 0 := by omega
                  subst this; exact Nat.le_refl _
  | k, j + 1, h => by
    by_cases e : k = j + 1
    · subst e; exact Nat.le_refl _
    · have := exTo_le l k j (by omega)
      simp only [exTo, List.length_append]; omega

/-- the printer writes every expression that may be at that depth. -/
def ExprPrints (d : Nat) : Prop := ∀ (S : Nat → Prop) (B b : Nat) (x : Ex) (v : Value) (l : List UInt8) (w : World), (∀ c, S c → c < B) → ExIs S w x v → exFault x d = 0 → Wrote B b l w → TabIn B w → l.length + (exShown x).length ≤ 140737488355328 →
    Calls Tryd.prog 23 #[.pointer (some ⟨b, 0, none⟩), v] w fun e w' => e = .returned (.tuple #[]) ∧ Wrote B b (l ++ exShown x) w' ∧ Went B b w w'

set_option maxHeartbeats 2000000 in
theorem args_any (d : Nat) (ih : ExprPrints d) (S : Nat → Prop) (B b : Nat) (o f : ByteArray) (xs : List Ex) (v : Value) (l : List UInt8) (w : World) (hS : ∀ c, S c → c < B) (hv : SlAt S (ExAt S w) 5 xs v) (hx : ∀ j (hj : j < xs.length), exFault xs[j] d = 0) (hw : Wrote B b l w) (ht : TabIn B w)
    (hlen : l.length + (o.data.toList ++ (exJoin xs ++ f.data.toList)).length ≤ 140737488355328) :
    Calls Tryd.prog 35 #[.pointer (some ⟨b, 0, none⟩), .string o, v, .string f] w fun e w' => e = .returned (.tuple #[]) ∧ Wrote B b (l ++ (o.data.toList ++ (exJoin xs ++ f.data.toList))) w' ∧ Went B b w w' := by
  obtain ⟨a, cap, rfl, ⟨hl, hlC⟩, hrest⟩ := hv
  unfold maxLen at hl
  have HIH := veil ih
  have HR := veil hrest
  have HX := veil hx
  have HW := veil hw
  have HT := veil ht
  have HJ := veil (exTo_all xs)
  have hlt := builder_lt hw
  rw [← HJ.out] at hlen ⊢
  simp only [List.length_append] at hlen
  clear ih hrest hx hw ht
  go_enter Tryd.func35, Tryd.ntmps35
  go_wp2_with fail
  refine (write_new B b l [o] _ _ _ _ (by simp) rfl rfl o.data.toList HW.out (by simp) (by simp [joined]) (by omega)).mono ?_
  rintro e w1 ⟨rfl, q1, q2⟩
  have HW1 := veil q1
  have HE1 := veil q2
  clear q1 q2 HW
  go_wp2_with fail
  go_loopw [16] (fun i wr => ∃ k : Nat, k ≤ xs.length ∧ i = .int .i64 k ∧ Wrote B b (l ++ o.data.toList ++ exTo xs k) wr ∧ Went B b w wr) (fun i _ => xs.length - (intOf i).toNat)
  case atStart => exact ⟨0, Nat.zero_le _, rfl, by simpa [exTo] using HW1.out, HE1.out⟩
  case round =>
    clear HW1 HE1
    obtain ⟨k, hk, rfl, hwr, hwe⟩ := hrel
    have HWr := veil hwr
    have HEr := veil hwe
    have hltr := builder_lt hwr
    clear hwr hwe
    by_cases hltk : k < xs.length
    · rcases HR.out with h0 | ⟨bb, off, rfl, hb, hrow⟩
      · omega
      have hbw := hS bb hb
      obtain ⟨kd, nu, fo, na, va, c0, c1, c2, c3, c4, hcs⟩ := exAt_cells.1 (hrow.get k hltk)
      obtain ⟨va1, va2, va3, rfl⟩ := hcs.slice
      have d0 := (HEr.out.below.cell (p := ⟨bb, off + k * 5, none⟩) hbw).trans c0
      have d1 := (HEr.out.below.cell (p := ⟨bb, off + k * 5 + 1, none⟩) hbw).trans c1
      have d2 := (HEr.out.below.cell (p := ⟨bb, off + k * 5 + 2, none⟩) hbw).trans c2
      have d3 := (HEr.out.below.cell (p := ⟨bb, off + k * 5 + 3, none⟩) hbw).trans c3
      have d4 := (HEr.out.below.cell (p := ⟨bb, off + k * 5 + 4, none⟩) hbw).trans c4
      have HC := veil hcs
      have HX0 := veil (HX.out k hltk)
      have HST : Hid (exTo xs (k + 1) = exTo xs k ++ ((if k = 0 then [] else [44, 32]) ++ exShown xs[k])) := by show _ = _; rw [exTo, List.getElem?_eq_getElem hltk]; rfl
      have HLE := veil (exTo_le xs (k + 1) xs.length hltk)
      have HLE' : Hid ((exTo xs k).length + ((if k = 0 then [] else [44, 32] : List UInt8).length + (exShown xs[k]).length) ≤ (exTo xs xs.length).length) := by
        show _ ≤ _
        have := HLE.out
        rw [HST.out] at this
        simpa only [List.length_append] using this
      have HWa := veil (HWr.out.below ((Below.refl _ _).alloc (Nat.le_refl _) (.cells #[.int .i64 kd, .int .i64 nu, .string fo, .string na, .slice va1 va2 va3] 47)))
      have HEa := veil (HEr.out.alloc (by omega) (.cells #[.int .i64 kd, .int .i64 nu, .string fo, .string na, .slice va1 va2 va3] 47))
      have HNew := veil (heap_alloc_new wr (.cells #[.int .i64 kd, .int .i64 nu, .string fo, .string na, .slice va1 va2 va3] 47))
      have hnb : wr.heap.size ≠ b := by omega
      clear c0 c1 c2 c3 c4 hcs hrow HR HX HWr HEr
      go_wp2_with fail
      refine (comma_any B b k _ _ HWa.out ?_).mono ?_
      · intro hk0
        have h1 := HLE'.out
        rw [if_neg hk0] at h1
        simp only [List.length_cons, List.length_nil] at h1
        simp only [List.length_append]
        omega
      rintro e w2 ⟨rfl, q1, q2⟩
      have HW2 := veil q1
      have HE2 := veil (HEa.out.trans q2)
      have e0 : w2.cell? ⟨wr.heap.size, 0, none⟩ = some (.int .i64 kd) := q2.cell HNew.out hnb (by decide) 0
      have e1 : w2.cell? ⟨wr.heap.size, 1, none⟩ = some (.int .i64 nu) := q2.cell HNew.out hnb (by decide) 1
      have e2 : w2.cell? ⟨wr.heap.size, 2, none⟩ = some (.string fo) := q2.cell HNew.out hnb (by decide) 2
      have e3 : w2.cell? ⟨wr.heap.size, 3, none⟩ = some (.string na) := q2.cell HNew.out hnb (by decide) 3
      have e4 : w2.cell? ⟨wr.heap.size, 4, none⟩ = some (.slice va1 va2 va3) := q2.cell HNew.out hnb (by decide) 4
      clear q1 q2 HWa HEa HNew d0 d1 d2 d3 d4
      go_wp2_with fail
      refine (HIH.out S B b xs[k] _ _ w2 hS ⟨_, _, _, _, _, rfl, HC.out.keep (Keeps.below HE2.out.below hS)⟩ HX0.out HW2.out (HT.out.keep HE2.out.below) ?_).mono ?_
      · have h1 := HLE'.out
        simp only [List.length_append]
        omega
      rintro e w3 ⟨rfl, q1, q2⟩
      have HW3 : Hid (Wrote B b (l ++ o.data.toList ++ exTo xs (k + 1)) w3) := by
        show Wrote _ _ _ _
        rw [HST.out]
        simpa only [List.append_assoc] using q1
      have HE3 := veil (HE2.out.trans q2)
      clear q1 q2 HW2 HE2 e0 e1 e2 e3 e4
      go_wp2_with fail
      exact ⟨⟨k + 1, by omega, by go_num, HW3.out, HE3.out⟩, by simp [intOf]; omega⟩
    · have hkl : k = xs.length := by omega
      subst hkl
      clear HR HX HIH
      go_wp2_with fail
      refine (write_new B b _ [f] wr _ _ _ (by simp) rfl rfl f.data.toList HWr.out (by simp) (by simp [joined]) (by simp only [List.length_append]; omega)).mono ?_
      rintro e w3 ⟨rfl, q1, q2⟩
      go_wp2_with fail
      go_end0
      exact ⟨rfl, by simpa only [List.append_assoc] using q1, HEr.out.trans q2⟩

theorem SlAt.tail {S : Nat → Prop} {w : World} {x : Ex} {r : List Ex} {bb off n cap : Nat} (h : RowAt (ExAt S w) 5 (x :: r) bb off) (hb : S bb) (hl : r.length ≤ maxLen) (hc : r.length ≤ cap) (hn : n = r.length) : SlAt S (ExAt S w) 5 r (.slice (some ⟨bb, off + 5, none⟩) n cap) :=
  ⟨_, cap, by rw [hn], ⟨hl, hc⟩, Or.inr ⟨bb, off + 5, rfl, hb, h.2⟩⟩

theorem cell_in {B b : Nat} {w w' : World} (h : Went B b w w') {c : Nat} (hc : c < B) (o : Nat) : w'.cell? ⟨c, o, none⟩ = w.cell? ⟨c, o, none⟩ := h.below.cell (p := ⟨c, o, none⟩) hc

set_option maxHeartbeats 8000000 in
set_option maxRecDepth 100000 in
theorem expr_step (d : Nat) (ih : ExprPrints (d + 1)) : ExprPrints d := by
    rintro S B b t v l w hS ⟨k, n, o, s, va, rfl, xs, rfl, hos, hss, hsl⟩ hf hw ht hlen
    have HIH := veil ih
    clear ih
    obtain ⟨hd10, hk, h8, hk1, hnf, hcf, hr, hxs⟩ := ex_ok hf
    have hlt := builder_lt hw
    obtain ⟨a, cap, rfl, ⟨hl, hlC⟩, hrest⟩ := hsl
    have HB : Hid (Went B b w (w.alloc (.cells #[.int .i64 k, .int .i64 n, .string o, .string s, .slice a xs.length cap] 47))) := Went.of_below ((Below.refl _ _).alloc (Nat.le_refl _) _) (by omega)
    have HW : Hid (Wrote B b l (w.alloc (.cells #[.int .i64 k, .int .i64 n, .string o, .string s, .slice a xs.length cap] 47))) := hw.below ((Below.refl _ _).alloc (Nat.le_refl _) _)
    have HT := veil ht
    have HS : Hid (exShown (.mk k n o s xs) = if k = 1 then numShown n
      else if k = 2 then [34] ++ (s.data.toList ++ [34])
      else if k = 3 then s.data.toList
      else if k = 4 then nameShown o s ++ ([40] ++ (exJoin xs ++ [41]))
      else if k = 5 then [40] ++ (exFst xs ++ ([32, 43, 32] ++ (exSnd xs ++ [41])))
      else if k = 6 then [91] ++ (exJoin xs ++ [93])
      else exFst xs ++ ([91] ++ (exSnd xs ++ [93]))) := by show _ = _; rw [exShown]
    have HNew := veil (heap_alloc_new w (.cells #[.int .i64 k, .int .i64 n, .string o, .string s, .slice a xs.length cap] 47))
    have hwb : w.heap.size ≠ b := by omega
    clear hw hf ht
    by_cases h1 : k = 1
    · subst h1
      rw [if_pos rfl] at HS
      rw [HS.out] at hlen ⊢
      clear HS hrest HIH hxs hk
      go_enter Tryd.func23, Tryd.ntmps23
      go_wp2_with fail
      refine (itoa_any n hr B _ (HT.out.keep HB.out.below)).mono ?_
      rintro e w1 ⟨rfl, q1⟩
      have HW1 := veil (HW.out.below q1)
      have HB1 := veil (HB.out.trans (Went.of_below (b := b) q1 (by simp; omega)))
      clear q1
      go_wp2_with fail
      refine (write_new B b l [textOf (numShown n)] w1 _ _ _ (by simp) rfl rfl (numShown n) HW1.out (by simp) (by simp [joined, textOf]) hlen).mono ?_
      rintro e w2 ⟨rfl, q1, q2⟩
      go_wp2_with fail
      go_end0
      exact ⟨rfl, q1, HB1.out.trans q2⟩
    rw [if_neg h1] at HS
    have h1' : (k == 1) = false := beq_eq_false_iff_ne.2 h1
    by_cases h2 : k = 2
    · subst h2
      rw [if_pos rfl] at HS
      rw [HS.out] at hlen ⊢
      clear HS hrest HIH hxs hk HNew
      go_enter Tryd.func23, Tryd.ntmps23
      go_wp2_with fail
      refine (write_new B b l [⟨#[34]⟩, s, ⟨#[34]⟩] _ _ _ _ (by simp) rfl rfl ([34] ++ (s.data.toList ++ [34])) HW.out (by simp) (by simp [joined]) hlen).mono ?_
      rintro e w1 ⟨rfl, q1, q2⟩
      go_wp2_with fail
      go_end0
      exact ⟨rfl, q1, HB.out.trans q2⟩
    rw [if_neg h2] at HS
    have h2' : (k == 2) = false := beq_eq_false_iff_ne.2 h2
    by_cases h3 : k = 3
    · subst h3
      rw [if_pos rfl] at HS
      rw [HS.out] at hlen ⊢
      clear HS hrest HIH hxs hk HNew
      go_enter Tryd.func23, Tryd.ntmps23
      go_wp2_with fail
      refine (write_new B b l [s] _ _ _ _ (by simp) rfl rfl (s.data.toList) HW.out (by simp) (by simp [joined]) hlen).mono ?_
      rintro e w1 ⟨rfl, q1, q2⟩
      go_wp2_with fail
      go_end0
      exact ⟨rfl, q1, HB.out.trans q2⟩
    rw [if_neg h3] at HS
    have h3' : (k == 3) = false := beq_eq_false_iff_ne.2 h3
    by_cases h4 : k = 4
    · subst h4
      rw [if_pos rfl] at HS
      rw [HS.out] at hlen ⊢
      have HV : Hid (SlAt S (ExAt S w) 5 xs (.slice a xs.length cap)) := ⟨a, cap, rfl, ⟨hl, hlC⟩, hrest⟩
      have HX := veil (exs_at hxs)
      simp only [List.length_append, List.length_cons, List.length_nil] at hlen
      clear HS hrest hxs hk
      go_enter Tryd.func23, Tryd.ntmps23
      go_wp2_with fail
      refine (name_any B b o s l _ HW.out (by omega)).mono ?_
      rintro e w1 ⟨rfl, q1, q2⟩
      have HW1 := veil q1
      have HB1 := veil (HB.out.trans q2)
      have e4 : w1.cell? ⟨w.heap.size, 4, none⟩ = some (.slice a xs.length cap) := q2.cell HNew.out hwb (by decide) 4
      clear q1 q2
      go_wp2_with fail
      refine (args_any (d + 1) HIH.out S B b ⟨#[40]⟩ ⟨#[41]⟩ xs _ _ w1 hS (exSl_keep (Keeps.below HB1.out.below hS) HV.out) HX.out HW1.out (HT.out.keep HB1.out.below) (by simp only [List.length_append, List.length_cons, List.length_nil]; omega)).mono ?_
      rintro e w2 ⟨rfl, q1, q2⟩
      go_wp2_with fail
      go_end0
      exact ⟨rfl, by simpa [List.append_assoc] using q1, HB1.out.trans q2⟩
    rw [if_neg h4] at HS
    have h4' : (k == 4) = false := beq_eq_false_iff_ne.2 h4
    by_cases h5 : k = 5
    · subst h5
      rw [if_pos rfl] at HS
      have hc : xs.length = 2 := by
        have hcf' : (xs.length == 2) = true := hcf
        simpa using hcf'
      match xs, hc with
      | [x0, x1], _ =>
        rcases hrest with h0 | ⟨bb, off, rfl, hb, hrow⟩
        · simp at h0
        have hbw := hS bb hb
        have hx0 := hrow.get 0 (by simp)
        have hx1 := hrow.get 1 (by simp)
        simp only [Nat.zero_mul, Nat.one_mul, Nat.add_zero, List.getElem_cons_zero, List.getElem_cons_succ] at hx0 hx1
        have f0 : exFault x0 (d + 1) = 0 := exs_at hxs 0 (by simp)
        have f1 : exFault x1 (d + 1) = 0 := exs_at hxs 1 (by simp)
        have hh0 : exFst [x0, x1] = exShown x0 := by rw [exFst]
        have hh1 : exSnd [x0, x1] = exShown x1 := by rw [exSnd, exFst]
        rw [HS.out, hh0, hh1] at hlen ⊢
        simp only [List.length_append, List.length_cons, List.length_nil] at hlen
        obtain ⟨kd, nu, fo, na, va, c0, c1, c2, c3, c4, hcs⟩ := exAt_cells.1 hx0
        obtain ⟨va1, va2, va3, rfl⟩ := hcs.slice
        have HC := veil hcs
        obtain ⟨ke, ne, fe, se, ve, g0, g1, g2, g3, g4, hce⟩ := exAt_cells.1 hx1
        obtain ⟨ve1, ve2, ve3, rfl⟩ := hce.slice
        have HE := veil hce
        clear HS hxs hk hrow hx0 hx1 hcs hce hh0 hh1
        simp only [List.length_cons, List.length_nil, Nat.zero_add, Nat.reduceAdd] at *
        go_enter Tryd.func23, Tryd.ntmps23
        go_wp2_with fail
        refine (write_new B b l [⟨#[40]⟩] _ _ _ _ (by simp) rfl rfl [40] HW.out (by decide) rfl (by simp only [List.length_cons, List.length_nil]; omega)).mono ?_
        rintro e w1 ⟨rfl, q1, q2⟩
        have HW1 := veil q1
        have HB1 := veil (HB.out.trans q2)
        have e4 : w1.cell? ⟨w.heap.size, 4, none⟩ = some (.slice (some ⟨bb, off, none⟩) 2 cap) := q2.cell HNew.out hwb (by decide) 4
        have d0 := (cell_in HB1.out hbw off).trans c0
        have d1 := (cell_in HB1.out hbw (off + 1)).trans c1
        have d2 := (cell_in HB1.out hbw (off + 2)).trans c2
        have d3 := (cell_in HB1.out hbw (off + 3)).trans c3
        have d4 := (cell_in HB1.out hbw (off + 4)).trans c4
        have HQ := veil (fun (W : World) (h : Went B b w1 W) => (q2.trans h).cell HNew.out hwb (by decide) 4)
        clear q1 q2 c0 c1 c2 c3 c4
        go_wp2_with fail
        refine (HIH.out S B b x0 _ _ w1 hS ⟨_, _, _, _, _, rfl, HC.out.keep (Keeps.below HB1.out.below hS)⟩ f0 HW1.out (HT.out.keep HB1.out.below) (by simp only [List.length_append, List.length_cons, List.length_nil]; omega)).mono ?_
        rintro e w2 ⟨rfl, q1, q2⟩
        have HW2 := veil q1
        have HB2 := veil (HB1.out.trans q2)
        have HQ2 := veil q2
        clear q1 q2 d0 d1 d2 d3 d4 e4
        go_wp2_with fail
        refine (write_new B b _ [⟨#[32, 43, 32]⟩] w2 _ _ _ (by simp) rfl rfl [32, 43, 32] HW2.out (by decide) rfl (by simp only [List.length_append, List.length_cons, List.length_nil]; omega)).mono ?_
        rintro e w3 ⟨rfl, q1, q2⟩
        have HW3 := veil q1
        have HB3 := veil (HB2.out.trans q2)
        have e4 : w3.cell? ⟨w.heap.size, 4, none⟩ = some (.slice (some ⟨bb, off, none⟩) 2 cap) := HQ.out w3 (HQ2.out.trans q2)
        have d0 := (cell_in HB3.out hbw (off + 5)).trans g0
        have d1 := (cell_in HB3.out hbw (off + 5 + 1)).trans g1
        have d2 := (cell_in HB3.out hbw (off + 5 + 2)).trans g2
        have d3 := (cell_in HB3.out hbw (off + 5 + 3)).trans g3
        have d4 := (cell_in HB3.out hbw (off + 5 + 4)).trans g4
        clear q1 q2 g0 g1 g2 g3 g4 HQ HQ2
        go_wp2_with fail
        refine (HIH.out S B b x1 _ _ w3 hS ⟨_, _, _, _, _, rfl, HE.out.keep (Keeps.below HB3.out.below hS)⟩ f1 HW3.out (HT.out.keep HB3.out.below) (by simp only [List.length_append, List.length_cons, List.length_nil]; omega)).mono ?_
        rintro e w4 ⟨rfl, q1, q2⟩
        have HW4 := veil q1
        have HB4 := veil (HB3.out.trans q2)
        clear q1 q2 d0 d1 d2 d3 d4 e4
        go_wp2_with fail
        refine (write_new B b _ [⟨#[41]⟩] w4 _ _ _ (by simp) rfl rfl [41] HW4.out (by decide) rfl (by simp only [List.length_append, List.length_cons, List.length_nil]; omega)).mono ?_
        rintro e w5 ⟨rfl, q1, q2⟩
        go_wp2_with fail
        go_end0
        exact ⟨rfl, by simpa [List.append_assoc] using q1, HB4.out.trans q2⟩
    rw [if_neg h5] at HS
    have h5' : (k == 5) = false := beq_eq_false_iff_ne.2 h5
    by_cases h6 : k = 6
    · subst h6
      rw [if_pos rfl] at HS
      rw [HS.out] at hlen ⊢
      have HV : Hid (SlAt S (ExAt S w) 5 xs (.slice a xs.length cap)) := ⟨a, cap, rfl, ⟨hl, hlC⟩, hrest⟩
      have HX := veil (exs_at hxs)
      clear HS hrest hxs hk
      go_enter Tryd.func23, Tryd.ntmps23
      go_wp2_with fail
      refine (args_any (d + 1) HIH.out S B b ⟨#[91]⟩ ⟨#[93]⟩ xs _ _ _ hS (exSl_keep (Keeps.below HB.out.below hS) HV.out) HX.out HW.out (HT.out.keep HB.out.below) hlen).mono ?_
      rintro e w2 ⟨rfl, q1, q2⟩
      go_wp2_with fail
      go_end0
      exact ⟨rfl, q1, HB.out.trans q2⟩
    rw [if_neg h6] at HS
    have h6' : (k == 6) = false := beq_eq_false_iff_ne.2 h6
    have h7 : k = 7 := by simp [isIn] at hk; omega
    subst h7
    have hc : xs.length = 2 := by
      have hcf' : (xs.length == 2) = true := hcf
      simpa using hcf'
    match xs, hc with
    | [x0, x1], _ =>
      rcases hrest with h0 | ⟨bb, off, rfl, hb, hrow⟩
      · simp at h0
      have hbw := hS bb hb
      have hx0 := hrow.get 0 (by simp)
      have hx1 := hrow.get 1 (by simp)
      simp only [Nat.zero_mul, Nat.one_mul, Nat.add_zero, List.getElem_cons_zero, List.getElem_cons_succ] at hx0 hx1
      have f0 : exFault x0 (d + 1) = 0 := exs_at hxs 0 (by simp)
      have f1 : exFault x1 (d + 1) = 0 := exs_at hxs 1 (by simp)
      have hh0 : exFst [x0, x1] = exShown x0 := by rw [exFst]
      have hh1 : exSnd [x0, x1] = exShown x1 := by rw [exSnd, exFst]
      rw [HS.out, hh0, hh1] at hlen ⊢
      simp only [List.length_append, List.length_cons, List.length_nil] at hlen
      obtain ⟨kd, nu, fo, na, va, c0, c1, c2, c3, c4, hcs⟩ := exAt_cells.1 hx0
      obtain ⟨va1, va2, va3, rfl⟩ := hcs.slice
      have HC := veil hcs
      have hcap : 2 ≤ cap := by simpa using hlC
      have hc1 : (cap == 1) = false := beq_eq_false_iff_ne.2 (by omega)
      have hc2 : ¬ cap = 1 := by omega
      have HV := veil (SlAt.tail (n := 1) (cap := cap - 1) hrow hb (by simp [maxLen]) (by simp; omega) rfl)
      have hfx : ∀ j (hj : j < [x1].length), exFault [x1][j] (d + 1) = 0 := fun j hj => by
        have : j = 0 := by simpa using hj
        subst this
        exact f1
      have HFX := veil hfx
      clear hfx
      have hj1 : exJoin [x1] = exShown x1 := by rw [exJoin, exMore, List.append_nil]
      clear HS hxs hk hrow hx0 hx1 hcs hh0 hh1
      simp only [List.length_cons, List.length_nil, Nat.zero_add, Nat.reduceAdd] at *
      go_enter Tryd.func23, Tryd.ntmps23
      have d0 := (cell_in HB.out hbw off).trans c0
      have d1 := (cell_in HB.out hbw (off + 1)).trans c1
      have d2 := (cell_in HB.out hbw (off + 2)).trans c2
      have d3 := (cell_in HB.out hbw (off + 3)).trans c3
      have d4 := (cell_in HB.out hbw (off + 4)).trans c4
      clear c0 c1 c2 c3 c4
      go_wp2_with fail
      refine (HIH.out S B b x0 _ _ _ hS ⟨_, _, _, _, _, rfl, HC.out.keep (Keeps.below HB.out.below hS)⟩ f0 HW.out (HT.out.keep HB.out.below) (by omega)).mono ?_
      rintro e w1 ⟨rfl, q1, q2⟩
      have HW1 := veil q1
      have HB1 := veil (HB.out.trans q2)
      have e4 : w1.cell? ⟨w.heap.size, 4, none⟩ = some (.slice (some ⟨bb, off, none⟩) 2 cap) := q2.cell HNew.out hwb (by decide) 4
      clear q1 q2 d0 d1 d2 d3 d4
      go_wp2_with fail
      refine (args_any (d + 1) HIH.out S B b ⟨#[91]⟩ ⟨#[93]⟩ [x1] _ _ w1 hS (exSl_keep (Keeps.below HB1.out.below hS) HV.out) HFX.out HW1.out (HT.out.keep HB1.out.below) (by rw [hj1]; simp only [List.length_append, List.length_cons, List.length_nil]; omega)).mono ?_
      rintro e w2 ⟨rfl, q1, q2⟩
      rw [hj1] at q1
      go_wp2_with fail
      go_end0
      exact ⟨rfl, by simpa [List.append_assoc] using q1, HB1.out.trans q2⟩

theorem expr_any : ∀ (m d : Nat), 10 < d + m → ExprPrints d := by
  intro m
  induction m with
  | zero =>
    rintro d hd S B b ⟨k, n, o, s, xs⟩ v l w hS hv hf
    have := (ex_ok hf).1
    omega
  | succ m ih =>
    intro d hd
    exact expr_step d (ih (d + 1) (by omega))

end Go.Proofs.YtaphjoggjfmbfabDoor
